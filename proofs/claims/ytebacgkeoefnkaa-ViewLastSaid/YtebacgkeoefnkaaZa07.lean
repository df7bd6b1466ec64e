/- What the proofs of this seat stand on; it asks nothing. -/
import Derived.Test.YtebacgkeoefnkaaZa06
set_option linter.unusedSimpArgs false
set_option linter.unusedVariables false
namespace Go.Proofs.Ytebacgkeoefnkaa
namespace Ax
mutual
def AV.fi (id : Nat) (bs : List Int) : AV → AV
 | .agg xs => .agg (fiL id bs xs)
 | .tup xs => .tup (fiL id bs xs)
 | .fn f cs => .fn f (fiL id bs cs)
 | .ms k s off len => bif k == id then (bif s == 1 && decide (off + len ≤ bs.length) then .si ((bs.drop off).take len) false else .ms k s off len) else .ms k s off len
 | x => x
def fiL (id : Nat) (bs : List Int) : List AV → List AV
 | [] => []
 | x :: xs => x.fi id bs :: fiL id bs xs
end
theorem zfr (id : Nat) (bs : List Int) : ∀ (xs : List AV),(fiL id bs xs).length = xs.length ∧ ∀ (j : Nat) (h : j < (fiL id bs xs).length) (h' : j < xs.length),(fiL id bs xs)[j] = xs[j].fi id bs
 | [] => ⟨rfl,fun j h => by simp [fiL] at h⟩
 | x :: xs => by
  obtain ⟨h1,h2⟩ := zfr id bs xs
  refine ⟨by simp [fiL,h1],fun j h h' => ?_⟩
  cases j with
  | zero => rfl
  | succ j => exact h2 j (by simpa [fiL] using h) (by simpa using h')
theorem ymq {id : Nat} {bs : List Int} {x : AV} (h : x.leaf = true) : (x.fi id bs).leaf = true := by
 cases x <;> first | exact h | (simp [AV.leaf] at h; done) | skip
 simp only [AV.fi]
 cases (_ == id) with
 | false => rfl
 | true =>
  simp only [cond_true]
  cases (_ && _ : Bool) <;> rfl
theorem fi_R {w : World} {loc : Loc} {id : Nat} {bs : List Int} (hor : (loc.m id = .nil ∧ bs = []) ∨ ∃ b,loc.m id = .here b ∧ b < w.heap.size ∧ Lies w loc (.i bs) b ∧ (∀ k,loc.m k = .here b → k = id) ∧ ¬ loc.bad b) {x : AV} {v : Value} (h : R w loc x v) : R w (loc.set id .dead) (x.fi id bs) v := by
 have hM : ∀ c,Mut (loc.set id .dead) c → Mut loc c := by
  rintro c (h | ⟨k,h⟩)
  ·exact .inl h
  ·by_cases hk : k = id
   ·subst hk; rw [Loc.set_same] at h; cases h
   ·rw [Loc.set_other _ _ hk] at h; exact .inr ⟨k,h⟩
 have hC : ∀ {a cs},Cells w loc a cs → Cells w (loc.set id .dead) a cs := fun h => h.move (fun b _ hm => hM b hm)
 induction h with
 | w v h => exact .w v h
 | str bs => exact .str bs
 | agg xs cs hl hx _ ih =>
  obtain ⟨h1,h2⟩ := zfr id bs xs
  refine .agg _ cs (by rw [h1,hl]) (fun j hj => ?_) (fun j a b => ?_)
  ·rw [h2 j hj (by rw [← h1]; exact hj)]; exact ymq (hx j _)
  ·rw [h2 j a (by rw [← h1]; exact a)]; exact ih j _ b
 | tup xs cs hl _ ih =>
  obtain ⟨h1,h2⟩ := zfr id bs xs
  refine .tup _ cs (by rw [h1,hl]) (fun j a b => ?_)
  rw [h2 j a (by rw [← h1]; exact a)]; exact ih j _ b
 | sb bs full a cap hd hc => exact .sb bs full a cap hd (hC hc)
 | si ns full a cap hd hc => exact .si ns full a cap hd (hC hc)
 | sg s xs full a cap cs hd hs hc hl hx h _ => exact .sg s xs full a cap cs hd hs (hC hc) hl hx (fun j a b => (h j a b).move (fun b _ hm => hM b hm) (hx j a).2)
 | cp ls a cs hc hn hl hx h _ => exact .cp ls a cs (hC hc) hn hl hx (fun j a b => (h j a b).move (fun b _ hm => hM b hm) (hx j a).2)
 | ms k s off len v h =>
  have hkeep : R w (loc.set id .dead) (.ms k s off len) v := by
   refine .ms _ _ _ _ _ ?_
   by_cases hk : k = id
   ·subst hk; unfold Owns; rw [Loc.set_same]; exact h.one
   ·unfold Owns at h ⊢; rw [Loc.set_other _ _ hk]; exact h
  simp only [AV.fi]
  by_cases hk : k = id
  ·subst hk
   simp only [beq_self_eq_true,cond_true]
   cases hc : (s == 1 && decide (off + len ≤ bs.length)) with
   | false => exact hkeep
   | true =>
    simp only [cond_true]
    simp only [Bool.and_eq_true,beq_iff_eq,decide_eq_true_eq] at hc
    obtain ⟨rfl,hle⟩ := hc
    have hlen : ((bs.drop off).take len).length = len := by simp; omega
    rcases hor with ⟨hb,rfl⟩ | ⟨b,hb,hlt,hl,hinj,hnb⟩
    ·unfold Owns at h
     rw [hb] at h
     obtain ⟨rfl,a,rfl⟩ := h
     have := R.si (w := w) (loc := loc.set k .dead) (([] : List Int)) false a 0 ⟨Nat.le_refl _,Nat.zero_le _,fun h => by cases h⟩ ⟨.inl rfl⟩
     simpa using this
    unfold Owns at h
    rw [hb] at h
    obtain ⟨o,cap,cur,e,fz,rfl,ho,hh,hsz,hlc,htop⟩ := h
    have hcells : Cells w (loc.set k .dead) (some ⟨b,o,none⟩) (((bs.drop off).take len).map word) := by
     by_cases h0 : len = 0
     ·subst h0; exact ⟨.inl (by simp)⟩
     refine ⟨.inr ⟨b,o,rfl,?_,hlt,fun j hj => ?_⟩⟩
     ·rintro (h | ⟨i,h⟩)
      ·exact hnb h
      ·by_cases hk : i = k
       ·subst hk; rw [Loc.set_same] at h; cases h
       ·rw [Loc.set_other _ _ hk] at h; exact hk (hinj i h)
     ·obtain ⟨cur',e',fz',hh',hf',hone',hfl',hr'⟩ := hl.lies
      rw [hh] at hh'; injection hh' with hh'; injection hh' with h1 h2 h3; subst h1
      have ho := ho (by omega)
      rw [Nat.mul_one] at ho
      rw [ho]
      have hj' : j < len := by simp at hj; omega
      have hfl : (Blk.flat (.i bs)).length = bs.length := by simp [Blk.flat]
      have hjs : off + j < cur.size := by omega
      have := (hr' (off + j) (by omega) hjs).2
      have e1 : (Blk.flat (.i bs))[off + j]'(by omega) = .w (word (bs[off + j]'(by omega))) := by simp [Blk.flat]
      rw [e1] at this
      have := this.wv
      have e2 : (((bs.drop off).take len).map word)[j] = word (bs[off + j]'(by omega)) := by simp
      rw [e2,← this]
      simp [World.cell?,hh,hjs]
    have := R.si (w := w) (loc := loc.set k .dead) ((bs.drop off).take len) false (some ⟨b,o,none⟩) cap ⟨by omega,htop,fun h => by cases h⟩ hcells
    rw [hlen] at this
    exact this
  ·have : (k == id) = false := by simpa using hk
   rw [this]; exact hkeep
 | rf k s i f v h =>
  refine .rf _ _ _ _ _ ?_
  by_cases hk : k = id
  ·subst hk; unfold Points; rw [Loc.set_same]; exact h.one
  ·unfold Points at h ⊢; rw [Loc.set_other _ _ hk]; exact h
 | fn f caps cs hl _ ih =>
  obtain ⟨h1,h2⟩ := zfr id bs caps
  refine .fn f _ cs (by rw [h1,hl]) (fun j a b => ?_)
  rw [h2 j a (by rw [← h1]; exact a)]; exact ih j _ b
 | junk v => exact .junk v
def Blk.fi (id : Nat) (bs : List Int) : Blk → Blk
 | .g s xs => .g s (fiL id bs xs)
 | .b cs => .b cs
 | .i ns => .i ns
 | .o x => .o x
theorem odd_fi {id : Nat} {bs : List Int} {b : Blk} : (b.fi id bs).odd = b.odd := by cases b <;> rfl
theorem ytf {id : Nat} {bs : List Int} {b : Blk} : (b.fi id bs).size = b.size := by cases b <;> rfl
def fiH (id : Nat) (bs : List Int) : Heap → Heap
 | [] => []
 | p :: r => bif p.1 == id then fiH id bs r else (p.1,p.2.fi id bs) :: fiH id bs r
theorem zxv (id : Nat) (bs : List Int) (x : AV) : (x.fi id bs).leaves = fiL id bs x.leaves := by
 cases x <;> first | rfl | skip
 simp only [AV.fi,AV.leaves,fiL]
 cases (_ == id) with
 | false => rfl
 | true =>
  simp only [cond_true]
  cases (_ && _ : Bool) <;> rfl
theorem zto (id : Nat) (bs : List Int) : ∀ (xs ys : List AV),fiL id bs (xs ++ ys) = fiL id bs xs ++ fiL id bs ys
 | [],_ => rfl
 | x :: xs,ys => by simp [fiL,zto id bs xs ys]
theorem ymo (id : Nat) (bs : List Int) (b : Blk) : (b.fi id bs).flat = fiL id bs b.flat := by
 cases b with
 | b cs =>
  simp only [Blk.fi,Blk.flat]
  induction cs with
  | nil => rfl
  | cons c r ih => simp only [List.map_cons,fiL,AV.fi]; rw [← ih]
 | o x => rfl
 | i ns =>
  simp only [Blk.fi,Blk.flat]
  induction ns with
  | nil => rfl
  | cons c r ih => simp only [List.map_cons,fiL,AV.fi]; rw [← ih]
 | g s xs =>
  simp only [Blk.fi,Blk.flat]
  induction xs with
  | nil => rfl
  | cons c r ih => simp only [fiL,List.flatMap_cons,zto]; rw [ih,zxv]
theorem ytn {id : Nat} {bs : List Int} {b : Blk} (h : b.ok) : (b.fi id bs).ok := by
 cases b with
 | g s xs =>
  obtain ⟨h1,h2⟩ := h
  refine ⟨h1,fun x hx => ?_⟩
  obtain ⟨j,hj,rfl⟩ := List.getElem_of_mem hx
  obtain ⟨h3,h4⟩ := zfr id bs xs
  rw [h4 j hj (by rw [← h3]; exact hj),zxv,(zfr id bs _).1]
  exact h2 _ (List.getElem_mem _)
 | _ => trivial
theorem len_fi {id : Nat} {bs : List Int} {b : Blk} : (b.fi id bs).len = b.len := by
 cases b with
 | g s xs => exact (zfr id bs xs).1
 | _ => rfl
theorem zvj {id : Nat} {bs : List Int} : ∀ {H : Heap} {k : Nat} {b : Blk},look (fiH id bs H) k = some b → k ≠ id ∧ ∃ c,look H k = some c ∧ b = c.fi id bs
 | [],k,b,h => by simp [fiH,look] at h
 | p :: r,k,b,h => by
  have e : look (p :: r) k = if p.1 = k then some p.2 else look r k := zar r p.1 k p.2
  unfold fiH at h
  by_cases hp : p.1 = id
  ·have : (p.1 == id) = true := by simpa using hp
   rw [this] at h
   obtain ⟨h1,c,h2,h3⟩ := zvj h
   exact ⟨h1,c,by rw [e,if_neg (by omega)]; exact h2,h3⟩
  ·have : (p.1 == id) = false := by simpa using hp
   rw [this] at h
   have e2 : look ((p.1,p.2.fi id bs) :: fiH id bs r) k = if p.1 = k then some (p.2.fi id bs) else look (fiH id bs r) k := zar (fiH id bs r) p.1 k _
   simp only [cond_false] at h
   rw [e2] at h
   split at h
   ·rename_i hk
    injection h with h
    exact ⟨by omega,p.2,by rw [e,if_pos hk],h.symm⟩
   ·rename_i hk
    obtain ⟨h1,c,h2,h3⟩ := zvj h
    exact ⟨h1,c,by rw [e,if_neg hk]; exact h2,h3⟩
theorem ydh {id : Nat} {bs : List Int} : ∀ (sl : List AV) (t : Nat),slot (fiL id bs sl) t = (slot sl t).fi id bs
 | [],t => rfl
 | x :: xs,0 => rfl
 | x :: xs,t + 1 => ydh xs t
theorem rel_fi {w0 : World} {E : Nat → Prop} {B : Bs} {w : World} {loc : Loc} {a : Act} {sl : List AV} {H : Heap} {nx : Nat} (id : Nat) (bs : List Int) (hl : look H id = some (.i bs)) (hB : Base w0 B w loc) (hr : Rel' w0 E loc ⟨sl,H,nx⟩ a w) (hlive : loc.m id ≠ .free) : Rel w0 E B ⟨fiL id bs sl,fiH id bs H,nx⟩ a w := by
 have hblk := hr.heap id _ hl
 have hor : (loc.m id = .nil ∧ bs = []) ∨ ∃ b,loc.m id = .here b ∧ b < w.heap.size ∧ Lies w loc (.i bs) b ∧ (∀ k,loc.m k = .here b → k = id) ∧ ¬ loc.bad b := by
  unfold BlkR at hblk
  cases e : loc.m id with
  | free => exact (hlive e).elim
  | dead => rw [e] at hblk; exact hblk.elim
  | nil => rw [e] at hblk; exact .inl ⟨rfl,List.eq_nil_of_length_eq_zero hblk.2⟩
  | here b =>
   rw [e] at hblk
   have h1 := hr.env.lies id b e
   refine .inr ⟨b,rfl,h1.1,hblk.2,fun k hk => hr.env.inj k id b hk e,fun hb => ?_⟩
   have h2 := hr.env.bad b hb
   rcases h1.2 with h3 | h3
   ·omega
   ·exact h2.2 h3
 have hset : ∀ {k c},(loc.set id .dead).m k = .here c → loc.m k = .here c := by
  intro k c h
  by_cases hk : k = id
  ·subst hk; rw [Loc.set_same] at h; cases h
  ·rwa [Loc.set_other _ _ hk] at h
 refine ⟨loc.set id .dead,⟨hB.1,hB.2.1,fun k hk => ?_⟩,⟨?_,fun t => ?_,?_,⟨hr.env.os,hr.env.tape,hr.env.output,hr.env.size,hr.env.same,fun i j b h1 h2 => hr.env.inj i j b (hset h1) (hset h2),fun i b h1 => hr.env.lies i b (hset h1),hr.env.bad⟩,?_,hr.defers,?_⟩⟩
 ·by_cases hne : k = id
  ·subst hne; left; rw [Loc.set_same]
  ·rw [Loc.set_other _ _ hne]; exact hB.2.2 k hk
 ·rw [hr.size]; exact ((zfr id bs sl).1).symm
 ·simp only; rw [ydh]; exact fi_R hor (hr.slots t)
 ·intro k b hk
  obtain ⟨h1,c,h2,rfl⟩ := zvj hk
  have h3 := hr.heap k c h2
  unfold BlkR at h3 ⊢
  rw [Loc.set_other _ _ h1]
  split
  ·trivial
  ·rename_i e; rw [e] at h3; exact h3
  ·rename_i e; rw [e] at h3; exact ⟨ytn h3.1,by rw [len_fi]; exact h3.2⟩
  ·rename_i d e
   rw [e] at h3
   rcases zbd c with ⟨x,hx,rfl⟩ | hodd
   ·exact ⟨ytn h3.1,.mkO (Thing.move (loc := loc) (fun c _ hM => hM.imp (fun h => h) (fun ⟨k,h⟩ => ⟨k,hset h⟩)) (h3.2.is hx)) rfl⟩
   obtain ⟨cur,el,fi,g1,g2,g3,g4,g5⟩ := h3.2.lies hodd
   have hlen : (c.fi id bs).flat.length = c.flat.length := by rw [ymo,(zfr id bs _).1]
   refine ⟨ytn h3.1,.mkC ⟨cur,el,fi,g1,by rw [ytf]; exact g2,g3,by omega,fun j x y => ?_⟩ (odd_fi.trans hodd)⟩
   have h6 := g5 j (by omega) y
   have e : (c.fi id bs).flat[j] = (c.flat[j]'(by omega)).fi id bs := by
    have := (zfr id bs c.flat).2 j (by rw [(zfr id bs _).1]; omega) (by omega)
    rw [← this]
    congr 1
    exact ymo id bs c
   rw [e]
   exact ⟨ymq h6.1,fi_R hor h6.2⟩
 ·intro k hk
  by_cases hne : k = id
  ·exact (hlive (hne ▸ hr.fresh k hk)).elim
  ·rw [Loc.set_other _ _ hne]; exact hr.fresh k hk
 ·intro k b hk
  obtain ⟨h1,c,h2,rfl⟩ := zvj hk
  exact hr.low k c h2
theorem ysw {sl : List AV} {H : Heap} {nx : Nat} (id i : Nat) (bs : List Int) (hl : look H id = some (.i bs)) (hi : id ∈ (slot sl i).ids) : Weak ⟨sl,H,nx⟩ ⟨fiL id bs sl,fiH id bs H,nx⟩ := by
 rintro w0 E B a w ⟨loc,hB,hr⟩
 exact rel_fi id bs hl hB hr (zdk _ _ (hr.slots i) hi)
end Ax
end Go.Proofs.Ytebacgkeoefnkaa
namespace Go.Proofs.Ytebacgkeoefnkaa
namespace Ax
mutual
def AV.fg (id s : Nat) (zs : List AV) : AV → AV
 | .agg xs => .agg (fgL id s zs xs)
 | .tup xs => .tup (fgL id s zs xs)
 | .fn f cs => .fn f (fgL id s zs cs)
 | .ms k s' off len => bif k == id then (bif s' == s && decide (off + len ≤ zs.length) then .sg s ((zs.drop off).take len) false else .ms k s' off len) else .ms k s' off len
 | x => x
def fgL (id s : Nat) (zs : List AV) : List AV → List AV
 | [] => []
 | x :: xs => x.fg id s zs :: fgL id s zs xs
end
theorem zfs (id s : Nat) (zs : List AV) : ∀ (xs : List AV),(fgL id s zs xs).length = xs.length ∧ ∀ (j : Nat) (h : j < (fgL id s zs xs).length) (h' : j < xs.length),(fgL id s zs xs)[j] = xs[j].fg id s zs
 | [] => ⟨rfl,fun j h => by simp [fgL] at h⟩
 | x :: xs => by
  obtain ⟨h1,h2⟩ := zfs id s zs xs
  refine ⟨by simp [fgL,h1],fun j h h' => ?_⟩
  cases j with
  | zero => rfl
  | succ j => exact h2 j (by simpa [fgL] using h) (by simpa using h')
theorem ymr {id s : Nat} {zs : List AV} {x : AV} (h : x.leaf = true) : (x.fg id s zs).leaf = true := by
 cases x <;> first | exact h | (simp [AV.leaf] at h; done) | skip
 simp only [AV.fg]
 cases (_ == id) with
 | false => rfl
 | true =>
  simp only [cond_true]
  cases (_ && _ : Bool) <;> rfl
theorem fg_R {w : World} {loc : Loc} {id s : Nat} {zs : List AV} (hcl : closedL zs = true) (hok : Blk.ok (.g s zs)) (hor : (loc.m id = .nil ∧ zs = []) ∨ ∃ b,loc.m id = .here b ∧ b < w.heap.size ∧ Lies w loc (.g s zs) b ∧ (∀ k,loc.m k = .here b → k = id) ∧ ¬ loc.bad b) {x : AV} {v : Value} (h : R w loc x v) : R w (loc.set id .dead) (x.fg id s zs) v := by
 have hM : ∀ c,Mut (loc.set id .dead) c → Mut loc c := by
  rintro c (h | ⟨k,h⟩)
  ·exact .inl h
  ·by_cases hk : k = id
   ·subst hk; rw [Loc.set_same] at h; cases h
   ·rw [Loc.set_other _ _ hk] at h; exact .inr ⟨k,h⟩
 have hC : ∀ {a cs},Cells w loc a cs → Cells w (loc.set id .dead) a cs := fun h => h.move (fun b _ hm => hM b hm)
 induction h with
 | w v h => exact .w v h
 | str bs => exact .str bs
 | agg xs cs hl hx _ ih =>
  obtain ⟨h1,h2⟩ := zfs id s zs xs
  refine .agg _ cs (by rw [h1,hl]) (fun j hj => ?_) (fun j a b => ?_)
  ·rw [h2 j hj (by rw [← h1]; exact hj)]; exact ymr (hx j _)
  ·rw [h2 j a (by rw [← h1]; exact a)]; exact ih j _ b
 | tup xs cs hl _ ih =>
  obtain ⟨h1,h2⟩ := zfs id s zs xs
  refine .tup _ cs (by rw [h1,hl]) (fun j a b => ?_)
  rw [h2 j a (by rw [← h1]; exact a)]; exact ih j _ b
 | sb bs full a cap hd hc => exact .sb bs full a cap hd (hC hc)
 | si ns full a cap hd hc => exact .si ns full a cap hd (hC hc)
 | sg s xs full a cap cs hd hs hc hl hx h _ => exact .sg s xs full a cap cs hd hs (hC hc) hl hx (fun j a b => (h j a b).move (fun b _ hm => hM b hm) (hx j a).2)
 | cp ls a cs hc hn hl hx h _ => exact .cp ls a cs (hC hc) hn hl hx (fun j a b => (h j a b).move (fun b _ hm => hM b hm) (hx j a).2)
 | ms k s' off len v h =>
  have hkeep : R w (loc.set id .dead) (.ms k s' off len) v := by
   refine .ms _ _ _ _ _ ?_
   by_cases hk : k = id
   ·subst hk; unfold Owns; rw [Loc.set_same]; exact h.one
   ·unfold Owns at h ⊢; rw [Loc.set_other _ _ hk]; exact h
  simp only [AV.fg]
  by_cases hk : k = id
  ·subst hk
   simp only [beq_self_eq_true,cond_true]
   cases hc : (s' == s && decide (off + len ≤ zs.length)) with
   | false => exact hkeep
   | true =>
    simp only [cond_true]
    simp only [Bool.and_eq_true,beq_iff_eq,decide_eq_true_eq] at hc
    obtain ⟨rfl,hle⟩ := hc
    have hlen : ((zs.drop off).take len).length = len := by simp; omega
    have hls : ∀ y ∈ (zs.drop off).take len,y.leaves.length = s' := fun y hy => hok.2 y (List.mem_of_mem_drop (List.mem_of_mem_take hy))
    have hclx : ∀ (j : Nat) (hj : j < (((zs.drop off).take len).flatMap AV.leaves).length),(((zs.drop off).take len).flatMap AV.leaves)[j].closed = true := by
     intro j hj
     have hm := List.getElem_mem hj
     obtain ⟨y,hy,hyl⟩ := List.mem_flatMap.1 hm
     exact zhq (zlg hcl (List.mem_of_mem_drop (List.mem_of_mem_take hy))) _ hyl
    have hHR : HR w loc [(k,.g s' zs)] := by
     intro i b hl
     simp only [look] at hl
     split at hl
     ·rename_i e; subst e
      injection hl with hl; subst hl
      unfold BlkR
      rcases hor with ⟨h1,h2⟩ | ⟨b,h1,h2,h3,_⟩
      ·rw [h1]; exact ⟨hok,by rw [h2]; rfl⟩
      ·rw [h1]; exact ⟨hok,h3⟩
     ·cases hl
    have hs := zfj (H := [(k,.g s' zs)]) (blk := .g s' zs) hHR h (by simp [look]) rfl hle
    have hfl : (Blk.flat (.g s' zs) |>.drop (off * s') |>.take (len * s')) = ((zs.drop off).take len).flatMap AV.leaves := by
     rw [zbf _ _ (fun y hy => hok.2 y (List.mem_of_mem_drop hy)),zbo _ _ hok.2]; rfl
    rw [hfl] at hs
    obtain ⟨a,cap,rfl,h1,h2,h3⟩ := hs.seen
    have h3 : len = 0 ∨ ∃ cs,(cs.length = len * s' ∧ CellsOf w loc (((zs.drop off).take len).flatMap AV.leaves) cs ∧ Cells w (loc.set k .dead) a cs) := by
     rcases h3 with h3 | ⟨b,o,cs,rfl,h4,h5,h6,h7⟩
     ·exact .inl h3
     ·by_cases h0 : len = 0
      ·exact .inl h0
      refine .inr ⟨cs,h5,h7,⟨.inr ⟨b,o,rfl,?_,h4,h6⟩⟩⟩
      have hb : loc.m k = .here b ∧ (∀ i,loc.m i = .here b → i = k) ∧ ¬ loc.bad b := by
       rcases hor with ⟨hb,rfl⟩ | ⟨b',hb,hlt,hl,hinj,hnb⟩
       ·simp at hle; omega
       ·unfold Owns at h; rw [hb] at h
        obtain ⟨o',cap',cur0,e0,fz0,hv,_⟩ := h
        injection hv with hv _ _
        injection hv with hv
        injection hv with hv1 hv2
        subst hv1
        exact ⟨hb,hinj,hnb⟩
      rintro (hq | ⟨i,hq⟩)
      ·exact hb.2.2 hq
      ·by_cases hk : i = k
       ·subst hk; rw [Loc.set_same] at hq; cases hq
       ·rw [Loc.set_other _ _ hk] at hq; exact hk (hb.2.1 i hq)
    have : R w (loc.set k .dead) (.sg s' ((zs.drop off).take len) false) (.slice a ((zs.drop off).take len).length cap) := by
     rcases h3 with h0 | ⟨cs,h5,h7,h8⟩
     ·have he : (zs.drop off).take len = [] := List.length_eq_zero_iff.1 (by omega)
      rw [he]
      exact .sg s' [] false a cap [] ⟨Nat.zero_le _,h2,by simp⟩ (by simp) ⟨.inl rfl⟩ (by simp) (fun j hj => by simp at hj) (fun j hj => by simp at hj)
     ·exact .sg s' ((zs.drop off).take len) false a cap cs ⟨by omega,h2,by simp⟩ hls h8 h7.len (fun j hj => ⟨h7.leaf j hj,hclx j hj⟩) (fun j x y => (h7.r j x y).move (fun b _ hm => hM b hm) (hclx j x))
    rw [hlen] at this
    exact this
  ·have : (k == id) = false := by simpa using hk
   rw [this]; exact hkeep
 | rf k s i f v h =>
  refine .rf _ _ _ _ _ ?_
  by_cases hk : k = id
  ·subst hk; unfold Points; rw [Loc.set_same]; exact h.one
  ·unfold Points at h ⊢; rw [Loc.set_other _ _ hk]; exact h
 | fn f caps cs hl _ ih =>
  obtain ⟨h1,h2⟩ := zfs id s zs caps
  refine .fn f _ cs (by rw [h1,hl]) (fun j a b => ?_)
  rw [h2 j a (by rw [← h1]; exact a)]; exact ih j _ b
 | junk v => exact .junk v
def Blk.fg (id s : Nat) (zs : List AV) : Blk → Blk
 | .g s' xs => .g s' (fgL id s zs xs)
 | .b cs => .b cs
 | .i ns => .i ns
 | .o x => .o x
theorem odd_fg {id s : Nat} {zs : List AV} {b : Blk} : (b.fg id s zs).odd = b.odd := by cases b <;> rfl
theorem ytg {id s : Nat} {zs : List AV} {b : Blk} : (b.fg id s zs).size = b.size := by cases b <;> rfl
def fgH (id s : Nat) (zs : List AV) : Heap → Heap
 | [] => []
 | p :: r => bif p.1 == id then fgH id s zs r else (p.1,p.2.fg id s zs) :: fgH id s zs r
theorem zxw (id s : Nat) (zs : List AV) (x : AV) : (x.fg id s zs).leaves = fgL id s zs x.leaves := by
 cases x <;> first | rfl | skip
 simp only [AV.fg,AV.leaves,fgL]
 cases (_ == id) with
 | false => rfl
 | true =>
  simp only [cond_true]
  cases (_ && _ : Bool) <;> rfl
theorem ztp (id s : Nat) (zs : List AV) : ∀ (xs ys : List AV),fgL id s zs (xs ++ ys) = fgL id s zs xs ++ fgL id s zs ys
 | [],_ => rfl
 | x :: xs,ys => by simp [fgL,ztp id s zs xs ys]
theorem ymp (id s : Nat) (zs : List AV) (b : Blk) : (b.fg id s zs).flat = fgL id s zs b.flat := by
 cases b with
 | b cs =>
  simp only [Blk.fg,Blk.flat]
  induction cs with
  | nil => rfl
  | cons c r ih => simp only [List.map_cons,fgL,AV.fg]; rw [← ih]
 | o x => rfl
 | i ns =>
  simp only [Blk.fg,Blk.flat]
  induction ns with
  | nil => rfl
  | cons c r ih => simp only [List.map_cons,fgL,AV.fg]; rw [← ih]
 | g s xs =>
  simp only [Blk.fg,Blk.flat]
  induction xs with
  | nil => rfl
  | cons c r ih => simp only [fgL,List.flatMap_cons,ztp]; rw [ih,zxw]
theorem yto {id s : Nat} {zs : List AV} {b : Blk} (h : b.ok) : (b.fg id s zs).ok := by
 cases b with
 | g s' xs =>
  obtain ⟨h1,h2⟩ := h
  refine ⟨h1,fun x hx => ?_⟩
  obtain ⟨j,hj,rfl⟩ := List.getElem_of_mem hx
  obtain ⟨h3,h4⟩ := zfs id s zs xs
  rw [h4 j hj (by rw [← h3]; exact hj),zxw,(zfs id s zs _).1]
  exact h2 _ (List.getElem_mem _)
 | _ => trivial
theorem len_fg {id s : Nat} {zs : List AV} {b : Blk} : (b.fg id s zs).len = b.len := by
 cases b with
 | g s' xs => exact (zfs id s zs xs).1
 | _ => rfl
theorem zvk {id s : Nat} {zs : List AV} : ∀ {H : Heap} {k : Nat} {b : Blk},look (fgH id s zs H) k = some b → k ≠ id ∧ ∃ c,look H k = some c ∧ b = c.fg id s zs
 | [],k,b,h => by simp [fgH,look] at h
 | p :: r,k,b,h => by
  have e : look (p :: r) k = if p.1 = k then some p.2 else look r k := zar r p.1 k p.2
  unfold fgH at h
  by_cases hp : p.1 = id
  ·have : (p.1 == id) = true := by simpa using hp
   rw [this] at h
   obtain ⟨h1,c,h2,h3⟩ := zvk h
   exact ⟨h1,c,by rw [e,if_neg (by omega)]; exact h2,h3⟩
  ·have : (p.1 == id) = false := by simpa using hp
   rw [this] at h
   have e2 : look ((p.1,p.2.fg id s zs) :: fgH id s zs r) k = if p.1 = k then some (p.2.fg id s zs) else look (fgH id s zs r) k := zar (fgH id s zs r) p.1 k _
   simp only [cond_false] at h
   rw [e2] at h
   split at h
   ·rename_i hk
    injection h with h
    exact ⟨by omega,p.2,by rw [e,if_pos hk],h.symm⟩
   ·rename_i hk
    obtain ⟨h1,c,h2,h3⟩ := zvk h
    exact ⟨h1,c,by rw [e,if_neg hk]; exact h2,h3⟩
theorem ydi {id s : Nat} {zs : List AV} : ∀ (sl : List AV) (t : Nat),slot (fgL id s zs sl) t = (slot sl t).fg id s zs
 | [],t => rfl
 | x :: xs,0 => rfl
 | x :: xs,t + 1 => ydi xs t
theorem ysg {w0 : World} {E : Nat → Prop} {B : Bs} {w : World} {loc : Loc} {a : Act} {sl : List AV} {H : Heap} {nx : Nat} {id s : Nat} {zs : List AV} (hB : Base w0 B w loc) (hr : Rel' w0 E loc ⟨sl,H,nx⟩ a w) (hlive : loc.m id ≠ .free) (hblk : BlkR w loc id (.g s zs)) (hcl : closedL zs = true) :
  Base w0 B w (loc.set id .dead) ∧ Rel' w0 E (loc.set id .dead) ⟨fgL id s zs sl,fgH id s zs H,nx⟩ a w := by
 have hor : (loc.m id = .nil ∧ zs = []) ∨ ∃ b,loc.m id = .here b ∧ b < w.heap.size ∧ Lies w loc (.g s zs) b ∧ (∀ k,loc.m k = .here b → k = id) ∧ ¬ loc.bad b := by
  unfold BlkR at hblk
  cases e : loc.m id with
  | free => exact (hlive e).elim
  | dead => rw [e] at hblk; exact hblk.elim
  | nil => rw [e] at hblk; exact .inl ⟨rfl,List.eq_nil_of_length_eq_zero hblk.2⟩
  | here b =>
   rw [e] at hblk
   have h1 := hr.env.lies id b e
   refine .inr ⟨b,rfl,h1.1,hblk.2,fun k hk => hr.env.inj k id b hk e,fun hb => ?_⟩
   have h2 := hr.env.bad b hb
   rcases h1.2 with h3 | h3
   ·omega
   ·exact h2.2 h3
 have hok : Blk.ok (.g s zs) := by
  unfold BlkR at hblk
  cases e : loc.m id with
  | free => exact (hlive e).elim
  | dead => rw [e] at hblk; exact hblk.elim
  | nil => rw [e] at hblk; exact hblk.1
  | here b => rw [e] at hblk; exact hblk.1
 have hset : ∀ {k c},(loc.set id .dead).m k = .here c → loc.m k = .here c := by
  intro k c h
  by_cases hk : k = id
  ·subst hk; rw [Loc.set_same] at h; cases h
  ·rwa [Loc.set_other _ _ hk] at h
 refine ⟨⟨hB.1,hB.2.1,fun k hk => ?_⟩,⟨?_,fun t => ?_,?_,⟨hr.env.os,hr.env.tape,hr.env.output,hr.env.size,hr.env.same,fun i j b h1 h2 => hr.env.inj i j b (hset h1) (hset h2),fun i b h1 => hr.env.lies i b (hset h1),hr.env.bad⟩,?_,hr.defers,?_⟩⟩
 ·by_cases hne : k = id
  ·subst hne; left; rw [Loc.set_same]
  ·rw [Loc.set_other _ _ hne]; exact hB.2.2 k hk
 ·rw [hr.size]; exact ((zfs id s zs sl).1).symm
 ·simp only; rw [ydi]; exact fg_R hcl hok hor (hr.slots t)
 ·intro k b hk
  obtain ⟨h1,c,h2,rfl⟩ := zvk hk
  have h3 := hr.heap k c h2
  unfold BlkR at h3 ⊢
  rw [Loc.set_other _ _ h1]
  split
  ·trivial
  ·rename_i e; rw [e] at h3; exact h3
  ·rename_i e; rw [e] at h3; exact ⟨yto h3.1,by rw [len_fg]; exact h3.2⟩
  ·rename_i d e
   rw [e] at h3
   rcases zbd c with ⟨x,hx,rfl⟩ | hodd
   ·exact ⟨yto h3.1,.mkO (Thing.move (loc := loc) (fun c _ hM => hM.imp (fun h => h) (fun ⟨k,h⟩ => ⟨k,hset h⟩)) (h3.2.is hx)) rfl⟩
   obtain ⟨cur,el,fz,g1,g2,g3,g4,g5⟩ := h3.2.lies hodd
   have hlen : (c.fg id s zs).flat.length = c.flat.length := by rw [ymp,(zfs id s zs _).1]
   refine ⟨yto h3.1,.mkC ⟨cur,el,fz,g1,by rw [ytg]; exact g2,g3,by omega,fun j x y => ?_⟩ (odd_fg.trans hodd)⟩
   have h6 := g5 j (by omega) y
   have e : (c.fg id s zs).flat[j] = (c.flat[j]'(by omega)).fg id s zs := by
    have := (zfs id s zs c.flat).2 j (by rw [(zfs id s zs _).1]; omega) (by omega)
    rw [← this]
    congr 1
    exact ymp id s zs c
   rw [e]
   exact ⟨ymr h6.1,fg_R hcl hok hor h6.2⟩
 ·intro k hk
  by_cases hne : k = id
  ·exact (hlive (hne ▸ hr.fresh k hk)).elim
  ·rw [Loc.set_other _ _ hne]; exact hr.fresh k hk
 ·intro k b hk
  obtain ⟨h1,c,h2,rfl⟩ := zvk hk
  exact hr.low k c h2
theorem zpa {sl : List AV} {H : Heap} {nx : Nat} (id s i : Nat) (zs : List AV) (hl : look H id = some (.g s zs)) (hcl : closedL zs = true) (hi : id ∈ (slot sl i).ids) : Weak ⟨sl,H,nx⟩ ⟨fgL id s zs sl,fgH id s zs H,nx⟩ := by
 rintro w0 E B a w ⟨loc,hB,hr⟩
 obtain ⟨h1,h2⟩ := ysg hB hr (zdk _ _ (hr.slots i) hi) (hr.heap id _ hl) hcl
 exact ⟨_,h1,h2⟩
end Ax
end Go.Proofs.Ytebacgkeoefnkaa
namespace Go.Proofs.Ytebacgkeoefnkaa
namespace Ax
section
variable {P : Program}
theorem yke {w0 : World} {E : Nat → Prop} {w w' : World} {loc : Loc} {wr : Bool} {H : Heap} {nm : Nat} {x : AV} {v : Value} {o : Obj} (he : Env w0 E w loc) (hh : HR w loc H) (hp : zna w w' o) (hx : Ext (fun _ => False) w loc w' loc → R w' loc x v) :
  Post w0 E w loc wr nm x H v w' loc := by
 have hsz : w'.heap.size = w.heap.size + 1 := by rw [hp.heap]; simp
 have hext : Ext (fun _ => False) w loc w' loc :=
  ⟨by omega,fun _ _ _ => rfl,fun _ _ h => h.elim,fun b hb hm => ⟨zbj hp hb,hm⟩,fun id b h1 _ => zbj hp (he.lies id b h1).1,fun b cur el fz' h2 => ⟨cur,fz',(zbj hp (Array.getElem?_eq_some_iff.1 h2).1).trans h2,rfl⟩⟩
 refine ⟨hx hext,fun id b hb => ?_,⟨hp.os.trans he.os,hp.tape.trans he.tape,hp.output.trans he.output,by have := he.size; omega,fun b hb hE => (zbj hp (by have := he.size; omega)).trans (he.same b hb hE),he.inj,fun i b hi => by have := he.lies i b hi; exact ⟨by omega,this.2⟩,he.bad⟩,⟨_,hext,fun _ _ h => h⟩,fun _ h h' => (h' h).elim,rfl⟩
 by_cases hfr : loc.m id = .free
 ·exact BlkR.free hfr
 ·exact (hh id b hb).ext hext (fun h => h) hfr
end
end Ax
end Go.Proofs.Ytebacgkeoefnkaa
namespace Go.Proofs.Ytebacgkeoefnkaa
namespace Ax
open Go.RowKit
def frzS (i : Nat) (q : Prop × List AV × Heap) : Prop × List AV × Heap :=
 match slot q.2.1 i with
 | .ms id _ _ _ => match look q.2.2 id with
  | some (.b bs) => (q.1,fzL id bs q.2.1,fzH id bs q.2.2)
  | some (.g s xs) => (q.1 ∧ closedL xs = true,fgL id s xs q.2.1,fgH id s xs q.2.2)
  | some (.i ns) => (q.1,fiL id ns q.2.1,fiH id ns q.2.2)
  | _ => q
 | _ => q
def frzL : List Nat → Prop × List AV × Heap → Prop × List AV × Heap
 | [],q => q
 | i :: r,q => frzL r (frzS i q)
def frzK (l : List Nat) (sl : List AV) (H : Heap) (K : List AV → Heap → Prop) : Prop := (frzL l (True,sl,H)).1 ∧ K (frzL l (True,sl,H)).2.1 (frzL l (True,sl,H)).2.2
theorem yif {i : Nat} {q : Prop × List AV × Heap} {nx : Nat} (h : (frzS i q).1) : q.1 ∧ Weak ⟨q.2.1,q.2.2,nx⟩ ⟨(frzS i q).2.1,(frzS i q).2.2,nx⟩ := by
 unfold frzS at h ⊢
 split at h
 ·rename_i id s off len hs
  split at h
  ·rename_i bs hl
   exact ⟨h,yjf id i bs hl (by rw [hs]; simp [AV.ids])⟩
  ·rename_i s' xs hl
   exact ⟨h.1,zpa id s' i xs hl h.2 (by rw [hs]; simp [AV.ids])⟩
  ·rename_i ns hl
   exact ⟨h,ysw id i ns hl (by rw [hs]; simp [AV.ids])⟩
  ·exact ⟨h,Weak.refl _⟩
 ·exact ⟨h,Weak.refl _⟩
theorem zti {nx : Nat} : ∀ (l : List Nat) (q : Prop × List AV × Heap),(frzL l q).1 → q.1 ∧ Weak ⟨q.2.1,q.2.2,nx⟩ ⟨(frzL l q).2.1,(frzL l q).2.2,nx⟩
 | [],q,h => ⟨h,Weak.refl _⟩
 | i :: r,q,h => by
  obtain ⟨h1,h2⟩ := zti (nx := nx) r _ h
  obtain ⟨h3,h4⟩ := yif (nx := nx) h1
  exact ⟨h3,h4.trans h2⟩
theorem ztj {nx : Nat} (l : List Nat) (sl : List AV) (H : Heap) (K : List AV → Heap → Prop) (h : frzK l sl H K) : ∃ sl' H',Weak ⟨sl,H,nx⟩ ⟨sl',H',nx⟩ ∧ K sl' H' :=
 ⟨_,_,(zti l _ h.1).2,h.2⟩
abbrev KPlan := Nat → Option (List Nat × Option Nat)
open Classical in
theorem ygz {P : Program} {T : zab} {S : zah} (hT : TOk P T) (hS : Fns P S) {f : FuncId} {fn : Func} {c : Code} (hf : P.funcs[f]? = some fn) (hb : fn.body = some c) {spec : zas} {Qp : List AV → List Blk → Exit → ASt → Prop}
  (hqp : ∀ xs pins e σ,Qp xs pins e σ → ∃ σ',Weak σ σ' ∧ Ends T fn.results.toList pins (spec xs pins) e σ')
  (h : ∀ xs pins,(spec xs pins).p → closedB pins = true → pins.length ≤ 4 ∧ ∀ w0 E B a w,Rel w0 E B ⟨xs ++ List.replicate (fn.ntmps - xs.length) .junk,pinHeap 0 pins,4⟩ a w → c.wp P (Low w0 E B (Qp xs pins)) a w) : zbg P f spec := by
 intro xs pins hp hcl w bad pb vs hlen hnd hbad hlies hxl hx
 obtain ⟨hp4,h⟩ := h xs pins hp hcl
 refine calls_of_wp hf hb ?_
 have hrel : Rel w (· ∈ pb) ⟨bad,pb⟩ ⟨xs ++ List.replicate (fn.ntmps - xs.length) .junk,pinHeap 0 pins,4⟩ { tmps := vs.toArray ++ Array.replicate (fn.ntmps - vs.toArray.size) undef,defers := [] } w := by
  refine ⟨zav pb bad,⟨⟨rfl,fun k hk cur e fz hh => ⟨cur,fz,hh,rfl⟩⟩,by simp only; omega,fun k hk => .inr ⟨by simp [zav,List.getElem?_eq_getElem hk],fun cur e fz hh => ⟨cur,fz,hh,rfl⟩⟩⟩,?_⟩
  refine ⟨by simp [hxl],fun t => ?_,?_,?_,?_,rfl,fun id b hl => ?_⟩
  ·simp only
   rw [zcr]
   by_cases ht : t < xs.length
   ·have e1 : (xs ++ List.replicate (fn.ntmps - xs.length) AV.junk).getD t .junk = xs[t] := by simp [List.getElem?_append_left,ht]
    have e2 : (vs.toArray ++ Array.replicate (fn.ntmps - vs.toArray.size) undef).getD t undef = vs[t]'(by omega) := by
     have : t < vs.length := by omega
     simp [Array.getD_eq_getD_getElem?,Array.getElem?_append,this]
    rw [e1,e2]
    exact hx t ht _
   ·have e1 : (xs ++ List.replicate (fn.ntmps - xs.length) AV.junk).getD t .junk = .junk := by
     rw [List.getD_eq_getElem?_getD,List.getElem?_append_right (by omega),List.getElem?_replicate]
     split <;> rfl
    rw [e1]; exact .junk _
  ·intro id b hl
   obtain ⟨j,hj,rfl,rfl⟩ := zbk pins 0 id b hl
   have hj' : j < pb.length := by omega
   unfold BlkR
   have : (zav pb bad).m (0 + j) = .here pb[j] := by simp [zav,List.getElem?_eq_getElem hj']
   rw [this]
   exact hlies j hj hj'
  ·refine ⟨rfl,rfl,rfl,Nat.le_refl _,fun _ _ _ => rfl,?_,?_,?_⟩
   ·intro i j b hi hj
    obtain ⟨h1,h2⟩ := zby hi
    obtain ⟨h3,h4⟩ := zby hj
    exact zcd hnd (h2.trans h4.symm)
   ·intro i b hi
    obtain ⟨h1,h2⟩ := zby hi
    subst h2
    refine ⟨?_,.inr (List.getElem_mem h1)⟩
    obtain ⟨ob,hh⟩ := zjq (hlies i (by omega) h1).2
    rcases Nat.lt_or_ge pb[i] w.heap.size with h' | h'
    ·exact h'
    ·rw [Array.getElem?_eq_none h'] at hh; cases hh
   ·exact fun b hb => hbad b hb
  ·intro id hid
   simp only at hid
   have : pb[id]? = none := List.getElem?_eq_none (by omega)
   simp [zav,this]
  ·obtain ⟨j,hj,rfl,_⟩ := zbk pins 0 id b hl
   simp; omega
 refine wp_mono (h _ _ _ _ w hrel) ?_
 have main : ∀ a w' σ,Rel w (· ∈ pb) ⟨bad,pb⟩ σ a w' → (rvals T σ.H σ.sl fn.results.toList).1 ∧ EndsX pins (spec xs pins) (rone (rvals T σ.H σ.sl fn.results.toList).2) σ →
   a.defers = [] ∧ ∃ v,(results fn a.tmps).run P w' = .ok v w' ∧ ∃ v' loc',Ending.returned v = .returned v' ∧ ysa w bad pb (spec xs pins) v' w' loc' := by
  rintro a w' σ ⟨loc,hB,hr⟩ ⟨hrv,hnodup,hpin,hbl,hren⟩
  obtain ⟨v,hv,hR⟩ := zil (P := P) (fn := fn) hT hr.heap hr.slots hrv
  refine ⟨hr.defers,v,hv,v,?_⟩
  generalize rone (rvals T σ.H σ.sl fn.results.toList).2 = x at hnodup hpin hbl hren hR
  have hnd' := nodup_iff hnodup
  obtain ⟨hids1,hids2⟩ := zgw x.ids (upTo 0 pins)
  obtain ⟨hu1,hu2⟩ := zlr pins 0
  generalize hids : newIds (upTo 0 pins) x.ids = ids at hnodup hpin hbl hren hnd' hids1 hids2
  obtain ⟨hpl,hpc,hpg⟩ := zfa hpin
  rw [hbl] at hpl hpc hpg
  obtain ⟨t,rfl⟩ := hids1
  have hm : pins.length ≤ (upTo 0 pins ++ t).length := by simp [hu1]
  have hold : ∀ k,(hk : k < pins.length) → (upTo 0 pins ++ t)[k]'(by omega) = k := by
   intro k hk
   rw [List.getElem_append_left (by omega)]
   have := hu2 k (by omega)
   omega
  -- every one of the names is alive
  have hlive : ∀ (k : Nat) (hk : k < (upTo 0 pins ++ t).length),loc.m (upTo 0 pins ++ t)[k] ≠ .free := by
   intro k hk
   rcases hids2 _ (List.getElem_mem hk) with hi | hi
   ·obtain ⟨j,hj,he⟩ := List.getElem_of_mem hi
    rw [← he,hu2 j hj]
    have hj' : j < pb.length := by omega
    rcases hB.2.2 j hj' with h1 | ⟨h1,_⟩
    ·rw [Nat.zero_add,h1]; simp
    ·rw [Nat.zero_add,h1]; simp
   ·exact zdk x v hR hi
  have hblk : ∀ (k : Nat) (hk : k < (upTo 0 pins ++ t).length) (hk' : k < (spec xs pins).bl.length),BlkR w' loc (upTo 0 pins ++ t)[k] (spec xs pins).bl[k] := by
   intro k hk hk'
   refine hr.heap _ _ ?_
   rw [hpg k hk,List.getElem?_eq_getElem hk']
  have hdead : ∀ (k : Nat) (hk : k < (upTo 0 pins ++ t).length),loc.m (upTo 0 pins ++ t)[k] ≠ .dead := by
   intro k hk e
   have := hblk k hk (by omega)
   unfold BlkR at this
   rw [e] at this
   exact this
  let g : Nat → Nat := gOf (upTo 0 pins ++ t) σ.nx
  have hgo : ∀ k,(hk : k < (upTo 0 pins ++ t).length) → g k = (upTo 0 pins ++ t)[k] := fun k hk => zes hk
  have hgn : ∀ k,(upTo 0 pins ++ t).length ≤ k → loc.m (g k) = .free := by
   intro k hk
   refine hr.fresh _ ?_
   show σ.nx ≤ gOf _ σ.nx k
   rw [zdy hk]; omega
  let loc' : Loc := { m := fun k => loc.m (g k),bad := loc.bad }
  have hlt : ∀ i b,loc'.m i = .here b → i < (upTo 0 pins ++ t).length := by
   intro i b hi
   rcases Nat.lt_or_ge i (upTo 0 pins ++ t).length with h' | h'
   ·exact h'
   ·have : loc'.m i = .free := hgn i h'
    rw [this] at hi; cases hi
  have hinj : ∀ i j b,loc'.m i = .here b → loc'.m j = .here b → i = j := by
   intro i j b hi hj
   have h1 := hlt i b hi
   have h2 := hlt j b hj
   have h3 : g i = g j := hr.env.inj (g i) (g j) b hi hj
   rw [hgo i h1,hgo j h2] at h3
   exact zcd hnd' h3
  have hpb : ∀ (k : Nat) (hk : k < pb.length),loc'.m k = .here pb[k] ∧ ∀ cur e fz,w.heap[pb[k]]? = some (.cells cur e fz) → ∃ cur' fz',w'.heap[pb[k]]? = some (.cells cur' e fz') ∧ cur'.size = cur.size := by
   intro k hk
   have hk1 : k < pins.length := by omega
   have e : loc'.m k = loc.m k := by
    show loc.m (g k) = loc.m k
    rw [hgo k (by omega),hold k hk1]
   rcases hB.2.2 k hk with h1 | ⟨h1,h2⟩
   ·have := hdead k (by omega)
    rw [hold k hk1] at this
    exact (this h1).elim
   ·exact ⟨e.trans h1,h2⟩
  refine ⟨loc',rfl,?_⟩
  refine ⟨ygn (loc2 := loc') (g := g) (fun _ => rfl) rfl hR _ hren,hB.1.1,?_,fun k hk => (hpb k hk).1,?_,?_,hinj,?_⟩
  ·intro k hk
   have hk' : k < (upTo 0 pins ++ t).length := by omega
   have e : loc'.m k = loc.m (upTo 0 pins ++ t)[k] := by show loc.m (g k) = _; rw [hgo k hk']
   refine ⟨?_,by rw [e]; exact hlive k hk',by rw [e]; exact hdead k hk'⟩
   have hb := hblk k hk' hk
   unfold BlkR at hb ⊢
   rw [e]
   split
   ·trivial
   ·rename_i e'; rw [e'] at hb; exact hb
   ·rename_i e'; rw [e'] at hb; exact hb
   ·rename_i b e'
    rw [e'] at hb
    refine ⟨hb.1,zfm hb.2 (zft hpc k hk) (.inr ?_)⟩
    rintro c _ (h | ⟨i,h⟩)
    ·exact .inl h
    ·exact .inr ⟨g i,h⟩
  ·intro k b hk hkb
   have := hr.env.lies (g k) b hkb
   refine ⟨?_,this.1⟩
   rcases this.2 with h' | h'
   ·exact h'
   ·obtain ⟨j,hj,he⟩ := List.getElem_of_mem h'
    have h1 := (hpb j hj).1
    rw [he] at h1
    have := hinj k j b hkb h1
    omega
  ·intro k hk
   exact hgn k (by omega)
  ·refine ⟨hr.env.os,hr.env.tape,hr.env.output,hr.env.size,hr.env.same,?_⟩
   rintro b cur e fz hb hh
   obtain ⟨j,hj,rfl⟩ := List.getElem_of_mem hb
   exact (hpb j hj).2 cur e fz hh
 rintro e a w' ⟨σ0,hr0,hq0⟩
 obtain ⟨σ,hwk,hq⟩ := hqp xs pins e σ0 hq0
 have hr := hwk _ _ _ _ _ hr0
 cases e with
 | normal => exact main a w' σ hr hq
 | ret => exact main a w' σ hr hq
 | _ => exact hq.elim
section rules
variable {S : zah} {T : zab} {pl : KPlan} {Q : Exit → ASt → Prop} {σ : ASt}
variable {ops r : List Oper} {o : Oper} {nm k : Nat} {sl : List AV} {H : Heap} {Q' : List AV → Heap → Prop}
theorem yqm {l : List Nat} {K : List AV → Heap → Prop} : frzK l sl H K = ((frzL l (True,sl,H)).1 ∧ K (frzL l (True,sl,H)).2.1 (frzL l (True,sl,H)).2.2) := rfl
end rules
end Ax
end Go.Proofs.Ytebacgkeoefnkaa
namespace Go.Proofs.Ytebacgkeoefnkaa
open Ax
open Ax
attribute [go_sem] Blk.fz Blk.fi Blk.fg
attribute [go_sem ↓] yqm
end Go.Proofs.Ytebacgkeoefnkaa
namespace Go.Proofs.Ytebacgkeoefnkaa
namespace Ax
def gone : Blk := .g 0 [.ms 0 0 0 0]
def Blk.isGone : Blk → Bool
 | .g s _ => s == 0
 | _ => false
mutual
def AV.sids : AV → List Nat
 | .agg xs => sidsL xs
 | .tup xs => sidsL xs
 | .fn _ cs => sidsL cs
 | .ms id _ _ len => bif decide (0 < len) then [id] else []
 | .rf id _ _ _ => [id]
 | _ => []
def sidsL : List AV → List Nat
 | [] => []
 | x :: xs => x.sids ++ sidsL xs
end
def yqr (id : Nat) : Option Blk → List Nat
 | some b => bif decide (0 < b.len) then [id] else []
 | none => []
mutual
def AV.sidsH (H : Heap) : AV → List Nat
 | .agg xs => sidsLH H xs
 | .tup xs => sidsLH H xs
 | .fn _ cs => sidsLH H cs
 | .ms id _ _ len => bif decide (0 < len) then [id] else yqr id (look H id)
 | .rf id _ _ _ => [id]
 | _ => []
def sidsLH (H : Heap) : List AV → List Nat
 | [] => []
 | x :: xs => x.sidsH H ++ sidsLH H xs
end
def Blk.idsB (b : Blk) : List Nat := bif b.closed then [] else match b with
 | .g _ xs => idsL xs
 | _ => []
def Blk.sidsB (b : Blk) : List Nat := bif b.closed then [] else match b with
 | .g _ xs => sidsL xs
 | _ => []
def Blk.renB (g : Nat → Nat) (b : Blk) : Blk := bif b.closed then b else b.ren g
def reach (H : Heap) : Nat → List Nat → List Nat → List Nat
 | 0,acc,_ => acc
 | _ + 1,acc,[] => acc
 | n + 1,acc,id :: r => bif acc.contains id then reach H n acc r else match look H id with
  | some b => reach H n (acc ++ [id]) (r ++ b.idsB)
  | none => acc
def walk (H : Heap) : List Nat → List Nat → Bool
 | _,[] => true
 | good,id :: r => good.contains id && match look H id with
  | some b => walk H (good ++ b.sidsB) r
  | none => false
def allIn : List Nat → List Nat → Bool
 | [],_ => true
 | id :: r,ids => ids.contains id && allIn r ids
def pinsIn (H : Heap) (ids : List Nat) : List Nat → Bool
 | [] => true
 | id :: r => (match look H id with
  | some b => allIn b.idsB ids
  | none => false) && pinsIn H ids r
def pinsR (H : Heap) (g : Nat → Nat) : List Nat → List Blk
 | [] => []
 | id :: r => match look H id with
  | some b => b.renB g :: pinsR H g r
  | none => []
def backO (g : Nat → Nat) (H : Heap) : Nat → List Blk → Heap
 | _,[] => H
 | k,b :: r => bif b.isGone then drop (backO g H (k + 1) r) (g k) else put (backO g H (k + 1) r) (g k) (b.renB g)
def openOut (nm : Nat) (ids : List Nat) (args : List AV) (H : Heap) (r : Res) : Out :=
 ⟨(nodup ids = true ∧ walk H (sidsLH H args) ids = true ∧ allIn (idsL args) ids = true ∧ pinsIn H ids ids = true) ∧ r.p ∧ ids.length ≤ r.bl.length ∧ r.bl.length ≤ ids.length + 8,
   r.x.ren (gOf ids nm),backO (gOf ids nm) H 0 r.bl⟩
def idxOf (ids : List Nat) (id : Nat) : Nat := idx id ids
def aOpen (SO : zah) (nm : Nat) (f : FuncId) (args : List AV) (H : Heap) : Out :=
 match SO f with
 | some spec => openOut nm (reach H 12 [] (idsL args)) args H (spec (renL (idxOf (reach H 12 [] (idsL args))) args) (pinsR H (idxOf (reach H 12 [] (idsL args))) (reach H 12 [] (idsL args))))
 | none => bad
structure yst (w : World) (bad : Nat → Prop) (pb : List Nat) (q : Res) (v : Value) (w' : World) (loc' : Loc) : Prop where
 r : R w' loc' q.x v
 bad : loc'.bad = bad
 bl : ∀ (k : Nat) (h : k < q.bl.length),(q.bl[k].isGone = true ∧ loc'.m k = .dead) ∨ (BlkR w' loc' k q.bl[k] ∧ loc'.m k ≠ .free ∧ loc'.m k ≠ .dead)
 old : ∀ (k : Nat) (h : k < pb.length),loc'.m k = .here pb[k] ∨ loc'.m k = .dead
 new : ∀ k b,pb.length ≤ k → loc'.m k = .here b → (w.heap.size ≤ b ∨ b ∈ pb) ∧ b < w'.heap.size
 none : ∀ k,q.bl.length ≤ k → loc'.m k = .free
 inj : ∀ i j b,loc'.m i = .here b → loc'.m j = .here b → i = j
 fram : Fram w w' (· ∈ pb)
def zol (P : Program) (f : FuncId) (spec : zas) : Prop :=
 ∀ (xs : List AV) (pins : List Blk),(spec xs pins).p →
 ∀ (w : World) (bad : Nat → Prop) (pb : List Nat) (vs : List Value),pb.length = pins.length → pb.Nodup → (∀ b,bad b → b < w.heap.size ∧ ¬ b ∈ pb) →
  (∀ (k : Nat) (h : k < pins.length) (h' : k < pb.length),pins[k].ok ∧ Lies w (zav pb bad) pins[k] pb[k]) →
  xs.length = vs.length → (∀ (j : Nat) (h : j < xs.length) (h' : j < vs.length),R w (zav pb bad) xs[j] vs[j]) →
  Calls P f vs.toArray w fun e w' => ∃ v loc',e = .returned v ∧ yst w bad pb (spec xs pins) v w' loc'
theorem idsL_mem {id : Nat} : ∀ {xs : List AV},id ∈ idsL xs ↔ ∃ x ∈ xs,id ∈ x.ids
 | [] => by simp [idsL]
 | x :: xs => by
   simp only [idsL,List.mem_append,List.mem_cons,idsL_mem (xs := xs)]; constructor
   ·rintro (h | ⟨y,h1,h2⟩)
    ·exact ⟨x,.inl rfl,h⟩
    ·exact ⟨y,.inr h1,h2⟩
   ·rintro ⟨y,rfl | h1,h2⟩
    ·exact .inl h2
    ·exact .inr ⟨y,h1,h2⟩
theorem sidsL_mem {id : Nat} : ∀ {xs : List AV},id ∈ sidsL xs ↔ ∃ x ∈ xs,id ∈ x.sids
 | [] => by simp [sidsL]
 | x :: xs => by
   simp only [sidsL,List.mem_append,List.mem_cons,sidsL_mem (xs := xs)]; constructor
   ·rintro (h | ⟨y,h1,h2⟩)
    ·exact ⟨x,.inl rfl,h⟩
    ·exact ⟨y,.inr h1,h2⟩
   ·rintro ⟨y,rfl | h1,h2⟩
    ·exact .inl h2
    ·exact .inr ⟨y,h1,h2⟩
theorem ybh {id : Nat} {x y : AV} (hy : y ∈ x.leaves) (h : id ∈ y.ids) : id ∈ x.ids := by
 cases x with
 | agg xs => exact idsL_mem.2 ⟨y,hy,h⟩
 | _ => simp only [AV.leaves,List.mem_singleton] at hy; subst hy; exact h
theorem yhw {id : Nat} {x : AV} (h : id ∈ x.ids) : ∃ y ∈ x.leaves,id ∈ y.ids := by
 cases x with
 | agg xs => exact idsL_mem.1 h
 | _ => exact ⟨_,by simp [AV.leaves],h⟩
theorem yat {id : Nat} {x : AV} (h : id ∈ x.sids) : ∃ y ∈ x.leaves,id ∈ y.sids := by
 cases x with
 | agg xs => exact sidsL_mem.1 h
 | _ => exact ⟨_,by simp [AV.leaves],h⟩
theorem ysf {w : World} {loc loc2 : Loc} {g : Nat → Nat} (hM : ∀ b,b < w.heap.size → Mut loc2 b → Mut loc b) {x : AV} {v : Value} (h : R w loc x v) : (∀ id ∈ x.ids,loc2.m (g id) = loc.m id) → R w loc2 (x.ren g) v := by
 induction h with
 | w v h => intro _; exact .w v h
 | str bs => intro _; exact .str bs
 | agg xs cs hl hx _ ih =>
  intro hg
  obtain ⟨h1,h2⟩ := zax g xs
  refine .agg _ cs (by rw [h1,hl]) (fun j hj => ?_) (fun j a b => ?_)
  ·rw [h2 j hj (by rw [← h1]; exact hj)]; exact ydm g (hx j _)
  ·rw [h2 j a (by rw [← h1]; exact a)]
   exact ih j _ b (fun id hid => hg id (idsL_mem.2 ⟨_,List.getElem_mem _,hid⟩))
 | tup xs cs hl _ ih =>
  intro hg
  obtain ⟨h1,h2⟩ := zax g xs
  refine .tup _ cs (by rw [h1,hl]) (fun j a b => ?_)
  rw [h2 j a (by rw [← h1]; exact a)]
  exact ih j _ b (fun id hid => hg id (idsL_mem.2 ⟨_,List.getElem_mem _,hid⟩))
 | sb bs full a cap hd hc => intro _; exact .sb bs full a cap hd (hc.move hM)
 | si ns full a cap hd hc => intro _; exact .si ns full a cap hd (hc.move hM)
 | sg s xs full a cap cs hd hs hc hl hx h ih => intro _; exact (R.sg s xs full a cap cs hd hs hc hl hx h).move hM rfl
 | cp ls a cs hc hn hl hx h ih => intro _; exact (R.cp ls a cs hc hn hl hx h).move hM rfl
 | ms id s off len v h =>
  intro hg
  refine .ms _ _ _ _ _ ?_
  unfold Owns at h ⊢
  rw [hg id (by simp [AV.ids])]; exact h
 | rf id s i f v h =>
  intro hg
  refine .rf _ _ _ _ _ ?_
  unfold Points at h ⊢
  rw [hg id (by simp [AV.ids])]; exact h
 | fn f caps cs hl _ ih =>
  intro hg
  obtain ⟨h1,h2⟩ := zax g caps
  refine .fn f _ cs (by rw [h1,hl]) (fun j a b => ?_)
  rw [h2 j a (by rw [← h1]; exact a)]
  exact ih j _ b (fun id hid => hg id (idsL_mem.2 ⟨_,List.getElem_mem _,hid⟩))
 | junk v => intro _; exact .junk v
theorem zys {blk : Blk} (hc : blk.closed = false) {id : Nat} : (∃ y ∈ blk.flat,id ∈ y.ids) ↔ id ∈ blk.idsB := by
 cases blk with
 | o x => simp [Blk.flat,Blk.idsB,hc]
 | b bs => simp [Blk.closed] at hc
 | i ns => simp [Blk.closed] at hc
 | g s xs =>
  simp only [Blk.idsB,hc,cond_false]
  constructor
  ·rintro ⟨y,hy,h⟩
   obtain ⟨x,hx,hxl⟩ := List.mem_flatMap.1 hy
   exact idsL_mem.2 ⟨x,hx,ybh hxl h⟩
  ·intro h
   obtain ⟨x,hx,h⟩ := idsL_mem.1 h
   obtain ⟨y,hy,h⟩ := yhw h
   exact ⟨y,List.mem_flatMap.2 ⟨x,hx,hy⟩,h⟩
theorem yqo {blk : Blk} {y : AV} (h : y ∈ blk.flat) : blk.odd = none := by
 cases blk with
 | o x => simp [Blk.flat] at h
 | _ => rfl
theorem zxs {w : World} {loc loc2 : Loc} {g : Nat → Nat} {blk : Blk} {b : Nat} (hM : ∀ b,b < w.heap.size → Mut loc2 b → Mut loc b) (hg : ∀ id ∈ blk.idsB,loc2.m (g id) = loc.m id) (h : Lies w loc blk b) : Lies w loc2 (blk.renB g) b := by
 unfold Blk.renB
 cases hc : blk.closed with
 | true => exact zfm h hc (.inr hM)
 | false =>
  simp only [cond_false]
  rcases zbd blk with ⟨x,hx,rfl⟩ | hodd
  ·exact .mkO (Thing.move hM (h.is hx)) hx
  obtain ⟨cur,e,fz,h1,h2,h3,h4,h5⟩ := h.lies hodd
  have hl : (blk.ren g).flat.length = blk.flat.length := by rw [zou,(zax g _).1]
  refine .mkC ⟨cur,e,fz,h1,by rw [ydj]; exact h2,h3,by omega,fun j a c => ?_⟩ (odd_ren.trans hodd)
  have h6 := h5 j (by omega) c
  have e : (blk.ren g).flat[j] = (blk.flat[j]'(by omega)).ren g := by
   have := (zax g blk.flat).2 j (by rw [(zax g _).1]; omega) (by omega)
   rw [← this]
   congr 1
   exact zou g blk
  rw [e,zkr]
  exact ⟨h6.1,ysf hM h6.2 (fun id hid => hg id ((zys hc).1 ⟨_,List.getElem_mem _,hid⟩))⟩
theorem ybb {g : Nat → Nat} {b : Blk} (h : b.ok) : (b.renB g).ok := by
 unfold Blk.renB
 cases b.closed with
 | true => exact h
 | false =>
  simp only [cond_false]
  cases b with
  | g s xs =>
   obtain ⟨h1,h2⟩ := h
   refine ⟨h1,fun x hx => ?_⟩
   obtain ⟨j,hj,rfl⟩ := List.getElem_of_mem hx
   obtain ⟨h3,h4⟩ := zax g xs
   rw [h4 j hj (by rw [← h3]; exact hj),znp,(zax g _).1]
   exact h2 _ (List.getElem_mem _)
  | _ => trivial
theorem yea {g : Nat → Nat} {b : Blk} : (b.renB g).len = b.len := by
 unfold Blk.renB
 cases b.closed with
 | true => rfl
 | false => exact ykz
def Firm (loc : Loc) (id : Nat) : Prop := loc.m id ≠ .free ∧ loc.m id ≠ .nil
mutual
theorem zlx {w : World} {loc : Loc} {id : Nat} : ∀ (x : AV) (v : Value),R w loc x v → id ∈ x.sids → Firm loc id
 | .agg xs,v,h,hm => by
  cases h with
  | agg _ cs hl hx h => exact sidsL_firm xs cs hl h hm
 | .tup xs,v,h,hm => by
  cases h with
  | tup _ cs hl h => exact sidsL_firm xs cs hl h hm
 | .fn f xs,v,h,hm => by
  cases h with
  | fn _ _ cs hl h => exact sidsL_firm xs cs hl h hm
 | .ms k s off len,v,h,hm => by
  simp only [AV.sids] at hm
  by_cases h0 : 0 < len
  ·rw [decide_eq_true h0] at hm
   obtain rfl : id = k := by simpa using hm
   cases h with
   | ms _ _ _ _ _ h =>
    refine ⟨fun e => by simp [Owns,e] at h,fun e => ?_⟩
    simp only [Owns,e] at h
    omega
  ·rw [decide_eq_false h0] at hm; simp at hm
 | .rf k s i f,v,h,hm => by
  obtain rfl : id = k := by simpa [AV.sids] using hm
  cases h with
  | rf _ _ _ _ _ h => exact ⟨fun e => by simp [Points,e] at h,fun e => by simp [Points,e] at h⟩
 | .w _,_,_,hm => by simp [AV.sids] at hm
 | .str _,_,_,hm => by simp [AV.sids] at hm
 | .sb _ _,_,_,hm => by simp [AV.sids] at hm
 | .si _ _,_,_,hm => by simp [AV.sids] at hm
 | .sg _ _ _,_,_,hm => by simp [AV.sids] at hm
 | .cp _,_,_,hm => by simp [AV.sids] at hm
 | .junk,_,_,hm => by simp [AV.sids] at hm
theorem sidsL_firm {w : World} {loc : Loc} {id : Nat} : ∀ (xs : List AV) (vs : List Value),xs.length = vs.length → (∀ (j : Nat) (h : j < xs.length) (h' : j < vs.length),R w loc xs[j] vs[j]) → id ∈ sidsL xs → Firm loc id
 | [],_,_,_,hm => by simp [sidsL] at hm
 | x :: xs,[],hl,_,_ => by simp at hl
 | x :: xs,v :: vs,hl,h,hm => by
  simp only [sidsL,List.mem_append] at hm
  rcases hm with hm | hm
  ·exact zlx x v (h 0 (by simp) (by simp)) hm
  ·exact sidsL_firm xs vs (by simpa using hl) (fun j a b => h (j + 1) (by simpa using a) (by simpa using b)) hm
end
mutual
theorem yhb {w : World} {loc : Loc} {H : Heap} (hh : HR w loc H) {id : Nat} : ∀ (x : AV) (v : Value),R w loc x v → id ∈ x.sidsH H → Firm loc id
 | .agg xs,v,h,hm => by
  cases h with
  | agg _ cs hl hx h => exact sidsLH_firm hh xs cs hl h hm
 | .tup xs,v,h,hm => by
  cases h with
  | tup _ cs hl h => exact sidsLH_firm hh xs cs hl h hm
 | .fn f xs,v,h,hm => by
  cases h with
  | fn _ _ cs hl h => exact sidsLH_firm hh xs cs hl h hm
 | .ms k s off len,v,h,hm => by
  simp only [AV.sidsH] at hm
  by_cases h0 : 0 < len
  ·rw [decide_eq_true h0] at hm
   exact zlx _ v h (by simp only [AV.sids]; rw [decide_eq_true h0]; exact hm)
  ·rw [decide_eq_false h0] at hm
   simp only [cond_false] at hm
   cases hl : look H k with
   | none => rw [hl] at hm; simp [yqr] at hm
   | some b =>
    rw [hl] at hm
    simp only [yqr] at hm
    by_cases hb : 0 < b.len
    ·rw [decide_eq_true hb] at hm
     obtain rfl : id = k := by simpa using hm
     have hfr : loc.m id ≠ .free := by
      cases h with
      | ms _ _ _ _ _ h => intro e; simp [Owns,e] at h
     refine ⟨hfr,fun e => ?_⟩
     obtain ⟨_,⟨_,q⟩ | ⟨c,hc,_⟩⟩ := hh.get hl hfr
     ·omega
     ·rw [hc] at e; cases e
    ·rw [decide_eq_false hb] at hm; simp at hm
 | .rf k s i f,v,h,hm => by
  exact zlx _ v h (by simpa [AV.sids,AV.sidsH] using hm)
 | .w _,_,_,hm => by simp [AV.sidsH] at hm
 | .str _,_,_,hm => by simp [AV.sidsH] at hm
 | .sb _ _,_,_,hm => by simp [AV.sidsH] at hm
 | .si _ _,_,_,hm => by simp [AV.sidsH] at hm
 | .sg _ _ _,_,_,hm => by simp [AV.sidsH] at hm
 | .cp _,_,_,hm => by simp [AV.sidsH] at hm
 | .junk,_,_,hm => by simp [AV.sidsH] at hm
theorem sidsLH_firm {w : World} {loc : Loc} {H : Heap} (hh : HR w loc H) {id : Nat} : ∀ (xs : List AV) (vs : List Value),xs.length = vs.length → (∀ (j : Nat) (h : j < xs.length) (h' : j < vs.length),R w loc xs[j] vs[j]) → id ∈ sidsLH H xs → Firm loc id
 | [],_,_,_,hm => by simp [sidsLH] at hm
 | x :: xs,[],hl,_,_ => by simp at hl
 | x :: xs,v :: vs,hl,h,hm => by
  simp only [sidsLH,List.mem_append] at hm
  rcases hm with hm | hm
  ·exact yhb hh x v (h 0 (by simp) (by simp)) hm
  ·exact sidsLH_firm hh xs vs (by simpa using hl) (fun j a b => h (j + 1) (by simpa using a) (by simpa using b)) hm
end
theorem zwk {w : World} {loc : Loc} {H : Heap} (hh : HR w loc H) : ∀ (ids good : List Nat),walk H good ids = true → (∀ id ∈ good,Firm loc id) → ∀ id ∈ ids,∃ b blk,loc.m id = .here b ∧ look H id = some blk ∧ blk.ok ∧ Lies w loc blk b
 | [],_,_,_,id,hid => by simp at hid
 | k :: r,good,hw,hg,id,hid => by
  simp only [walk,Bool.and_eq_true] at hw
  obtain ⟨h1,h2⟩ := hw
  have hk : k ∈ good := List.contains_iff_mem.1 h1
  cases hl : look H k with
  | none => simp [hl] at h2
  | some blk =>
   simp only [hl] at h2
   obtain ⟨hf,hn⟩ := hg k hk
   obtain ⟨hok,⟨e,_⟩ | ⟨b,hb,hlies⟩⟩ := hh.get hl hf
   ·exact (hn e).elim
   ·rcases List.mem_cons.1 hid with rfl | hid
    ·exact ⟨b,blk,hb,hl,hok,hlies⟩
    ·refine zwk hh r _ h2 (fun id' hid' => ?_) id hid
     rcases List.mem_append.1 hid' with h | h
     ·exact hg id' h
     ·unfold Blk.sidsB at h
      cases hc : blk.closed with
      | true => rw [hc] at h; simp at h
      | false =>
       rw [hc] at h
       simp only [cond_false] at h
       cases blk with
       | o _ => simp at h
       | b _ => simp at h
       | i _ => simp at h
       | g s xs =>
        simp only at h
        obtain ⟨x,hx,h⟩ := sidsL_mem.1 h
        obtain ⟨y,hy,h⟩ := yat h
        have hyf : y ∈ (Blk.g s xs).flat := List.mem_flatMap.2 ⟨x,hx,hy⟩
        obtain ⟨j,hj,rfl⟩ := List.getElem_of_mem hyf
        obtain ⟨cur,e,fz,_,_,_,q4,q5⟩ := hlies.lies
        exact zlx _ _ (q5 j hj (by omega)).2 h
theorem zrr {ids : List Nat} : ∀ {l : List Nat},allIn l ids = true → ∀ id ∈ l,id ∈ ids
 | [],_,id,h => by simp at h
 | k :: r,hl,id,h => by
  simp only [allIn,Bool.and_eq_true] at hl
  rcases List.mem_cons.1 h with rfl | h
  ·exact List.contains_iff_mem.1 hl.1
  ·exact zrr hl.2 id h
theorem zsv {H : Heap} {ids : List Nat} : ∀ {l : List Nat},pinsIn H ids l = true → ∀ id ∈ l,∀ b,look H id = some b → ∀ k ∈ b.idsB,k ∈ ids
 | [],_,id,h => by simp at h
 | i :: r,hl,id,h => by
  simp only [pinsIn,Bool.and_eq_true] at hl
  rcases List.mem_cons.1 h with rfl | h
  ·intro b hb k hk
   rw [hb] at hl
   exact zrr hl.1 k hk
  ·exact zsv hl.2 id h
theorem zxh {H : Heap} {g : Nat → Nat} : ∀ {ids : List Nat},(∀ id ∈ ids,look H id ≠ none) → (pinsR H g ids).length = ids.length ∧ ∀ (k : Nat) (h : k < ids.length) (h' : k < (pinsR H g ids).length) (b : Blk),look H ids[k] = some b → (pinsR H g ids)[k] = b.renB g
 | [],_ => ⟨rfl,fun k h => by simp at h⟩
 | id :: r,hn => by
  obtain ⟨h1,h2⟩ := zxh (g := g) (fun i hi => hn i (List.mem_cons_of_mem _ hi) : ∀ i ∈ r,look H i ≠ none)
  cases hl : look H id with
  | none => exact (hn id (by simp) hl).elim
  | some b =>
   have e : pinsR H g (id :: r) = b.renB g :: pinsR H g r := by simp [pinsR,hl]
   rw [e]
   refine ⟨by simp [h1],fun k h h' c hc => ?_⟩
   cases k with
   | zero => simp only [List.getElem_cons_zero] at hc ⊢; rw [hl] at hc; injection hc with hc; rw [hc]
   | succ k => simp only [List.getElem_cons_succ] at hc ⊢; exact h2 k (by simpa using h) (by rw [h1]; simpa using h) c hc
theorem yli {ids : List Nat} (hnd : ids.Nodup) (k : Nat) (h : k < ids.length) : idx ids[k] ids = k := by
 obtain ⟨h1,h2⟩ := ylh (List.getElem_mem h)
 rw [List.getElem?_eq_getElem h1] at h2
 injection h2 with h2
 exact zcd hnd h2
theorem zno {g : Nat → Nat} {H : Heap} {b : Blk} : ∀ (bl : List Blk) (k id : Nat),look (backO g H k bl) id = some b → (∃ j,∃ h : j < bl.length,g (k + j) = id ∧ bl[j].isGone = false ∧ bl[j].renB g = b) ∨ (look H id = some b ∧ ∀ j,j < bl.length → g (k + j) ≠ id)
 | [],k,id,h => .inr ⟨h,fun j hj => by simp at hj⟩
 | c :: r,k,id,h => by
  have rest : look (backO g H (k + 1) r) id = some b → g k ≠ id → (∃ j,∃ h : j < (c :: r).length,g (k + j) = id ∧ (c :: r)[j].isGone = false ∧ (c :: r)[j].renB g = b) ∨ (look H id = some b ∧ ∀ j,j < (c :: r).length → g (k + j) ≠ id) := by
   intro h hne
   rcases zno r (k + 1) id h with ⟨j,hj,h1,h2⟩ | ⟨h1,h2⟩
   ·exact .inl ⟨j + 1,by simpa using hj,by rw [← h1]; congr 1; omega,h2⟩
   ·refine .inr ⟨h1,fun j hj => ?_⟩
    cases j with
    | zero => exact hne
    | succ j => have := h2 j (by simpa using hj); rw [show k + (j + 1) = k + 1 + j by omega]; exact this
  simp only [backO] at h
  cases hg : c.isGone with
  | true =>
   rw [hg] at h
   simp only [cond_true,zfl] at h
   split at h
   ·cases h
   ·rename_i hne; exact rest h hne
  | false =>
   rw [hg] at h
   simp only [cond_false,zar] at h
   split at h
   ·rename_i he
    injection h with h
    exact .inl ⟨0,by simp,he,hg,h⟩
   ·rename_i hne; exact rest h hne
end Ax
end Go.Proofs.Ytebacgkeoefnkaa
namespace Go.Proofs.Ytebacgkeoefnkaa
namespace Ax
theorem zpu {w : World} {loc : Loc} {blk : Blk} {b : Nat} (h : Lies w loc blk b) : ∀ id ∈ blk.idsB,loc.m id ≠ .free := by
 intro id hid
 cases hc : blk.closed with
 | true => unfold Blk.idsB at hid; rw [hc] at hid; simp at hid
 | false =>
  obtain ⟨y,hy,hyi⟩ := (zys hc).2 hid
  obtain ⟨j,hj,rfl⟩ := List.getElem_of_mem hy
  obtain ⟨cur,e,fz,_,_,_,q4,q5⟩ := h.lies (yqo hy)
  exact zdk _ _ (q5 j hj (by omega)).2 hyi
theorem ztt {P : Program} {w0 : World} {E : Nat → Prop} {w : World} {loc : Loc} {H : Heap} (he : Env w0 E w loc) (hh : HR w loc H) {nm : Nat} (hfree : ∀ id,nm ≤ id → id < nm + 8 → loc.m id = .free) {SO : zah} (hS : ∀ f s,SO f = some s → zol P f s) {f : FuncId} {args : List AV} {vs : List Value}
  (hlen : args.length = vs.length) (hargs : ∀ (j : Nat) (h : j < args.length) (h' : j < vs.length),R w loc args[j] vs[j]) (hp : (aOpen SO nm f args H).p) :
  Calls P f vs.toArray w fun e w' => ∃ v loc',e = .returned v ∧ Post w0 E w loc true nm (aOpen SO nm f args H).x (aOpen SO nm f args H).H v w' loc' := by
 unfold aOpen at hp ⊢
 cases hsf : SO f with
 | none => simp [hsf,bad] at hp
 | some spec =>
  simp only [hsf,openOut] at hp ⊢
  generalize reach H 12 [] (idsL args) = ids at *
  obtain ⟨⟨hnd,hwalk,hain,hpin⟩,hsp,hb1,hb2⟩ := hp
  have hndp := nodup_iff hnd
  have live := zwk hh ids _ hwalk (fun id hid => sidsLH_firm hh args vs hlen hargs hid)
  have hlk : ∀ id ∈ ids,look H id ≠ none := fun id hid => by
   obtain ⟨b,blk,_,h,_⟩ := live id hid; rw [h]; simp
  obtain ⟨hpl,hpg⟩ := zxh (H := H) (g := idxOf ids) hlk
  generalize hpins : pinsR H (idxOf ids) ids = pins at *
  let blockOf : Nat → Nat := fun id => match loc.m id with | .here b => b | _ => 0
  have hblk : ∀ id ∈ ids,loc.m id = .here (blockOf id) := by
   intro id hid
   obtain ⟨b,_,hb,_⟩ := live id hid
   simp only [blockOf,hb]
  have hpb : PB loc ids (ids.map blockOf) := ⟨by simp,fun k a b => by simpa using hblk _ (List.getElem_mem a)⟩
  have hpbn : (ids.map blockOf).Nodup := by
   refine List.pairwise_map.2 (hndp.imp_of_mem ?_)
   intro a b ha hb hab hq
   exact hab (he.inj a b _ (hblk a ha) (by rw [hq]; exact hblk b hb))
  generalize hpbe : ids.map blockOf = pb at *
  have hpbl : pb.length = ids.length := hpb.len
  have hmemMut : ∀ b,b ∈ pb → Mut loc b := fun b hb => by obtain ⟨id,_,h⟩ := hpb.mem hb; exact .inr ⟨id,h⟩
  let bad' : Nat → Prop := fun b => Mut loc b ∧ ¬ b ∈ pb
  have hbad' : ∀ b,bad' b → Mut loc b := fun b h => h.1
  have hmutlt : ∀ b,Mut loc b → b < w.heap.size := by
   rintro b (h | ⟨k,h⟩)
   ·have := (he.bad b h).1; have := he.size; omega
   ·exact (he.lies k b h).1
  have hMl : ∀ b,b < w.heap.size → Mut (zav pb bad') b → Mut loc b := fun b _ hb => by
   rcases mut_locOf.1 hb with h | h
   ·exact hbad' b h
   ·exact hmemMut b h
  have hg0 : ∀ id ∈ ids,(zav pb bad').m (idxOf ids id) = loc.m id := by
   intro id hid
   obtain ⟨k,hk,rfl⟩ := List.getElem_of_mem hid
   have : idxOf ids ids[k] = k := yli hndp k hk
   rw [this,hpb.at_ k hk (by omega)]
   simp only [zav]
   rw [List.getElem?_eq_getElem (by omega : k < pb.length)]
  obtain ⟨a1,a2⟩ := zax (idxOf ids) args
  have hargs2 : ∀ (j : Nat) (h : j < (renL (idxOf ids) args).length) (h' : j < vs.length),R w (zav pb bad') (renL (idxOf ids) args)[j] vs[j] := by
   intro j h h'
   rw [a2 j h (by rw [← a1]; exact h)]
   exact ysf hMl (hargs j (by rw [← a1]; exact h) h') (fun id hid => hg0 id (zrr hain id (idsL_mem.2 ⟨_,List.getElem_mem _,hid⟩)))
  have hpinlies : ∀ (k : Nat) (h : k < pins.length) (h' : k < pb.length),pins[k].ok ∧ Lies w (zav pb bad') pins[k] pb[k] := by
   intro k h h'
   have hki : k < ids.length := by omega
   obtain ⟨b,blk,q1,q2,q3,q4⟩ := live ids[k] (List.getElem_mem hki)
   have h5 := hpb.at_ k hki h'
   rw [q1] at h5; injection h5 with h5; subst h5
   rw [hpg k hki h blk q2]
   exact ⟨ybb q3,zxs hMl (fun id hid => hg0 id (zsv hpin _ (List.getElem_mem hki) blk q2 id hid)) q4⟩
  have hcall := hS f spec hsf _ pins hsp w bad' pb vs (by omega) hpbn (fun b h => ⟨hmutlt b h.1,h.2⟩) hpinlies (by rw [a1,hlen]) hargs2
  refine hcall.mono ?_
  rintro e w' ⟨v,loc',rfl,hg⟩
  generalize hres : spec (renL (idxOf ids) args) pins = res at *
  classical
  let loc2 : Loc := { m := fun id => if nm ≤ id ∧ id < nm + 8 then loc'.m (ids.length + (id - nm)) else if id ∈ ids then loc'.m (idx id ids) else loc.m id,bad := loc.bad }
  have hidsr : ∀ id ∈ ids,¬ (nm ≤ id ∧ id < nm + 8) := by
   intro id hid h
   have := hfree id h.1 h.2
   rw [hblk id hid] at this; cases this
  have h2new : ∀ k,ids.length ≤ k → k < ids.length + 8 → loc2.m (nm + (k - ids.length)) = loc'.m k := by
   intro k a b
   simp only [loc2]
   rw [if_pos (by omega)]
   congr 1; omega
  have h2pin : ∀ (k : Nat) (hk : k < ids.length),loc2.m ids[k] = loc'.m k := by
   intro k hk
   simp only [loc2]
   rw [if_neg (hidsr _ (List.getElem_mem hk)),if_pos (List.getElem_mem hk),yli hndp k hk]
  have h2old : ∀ id,¬ (nm ≤ id ∧ id < nm + 8) → ¬ id ∈ ids → loc2.m id = loc.m id := fun id h h' => by
   simp only [loc2]; rw [if_neg h,if_neg h']
  have hblt : ∀ k,loc'.m k ≠ .free → k < res.bl.length := by
   intro k hk
   rcases Nat.lt_or_ge k res.bl.length with h | h
   ·exact h
   ·exact (hk (hg.none k h)).elim
  have hgm : ∀ k,loc'.m k ≠ .free → loc2.m (gOf ids nm k) = loc'.m k := by
   intro k hk
   by_cases hki : k < ids.length
   ·rw [zes hki,h2pin k hki]
   ·have := hblt k hk
    rw [zdy (by omega)]
    exact h2new k (by omega) (by omega)
  -- what a name stands for
  have hcase : ∀ i b,loc2.m i = .here b → (∃ k,loc'.m k = .here b ∧ i = gOf ids nm k) ∨ (¬ i ∈ ids ∧ ¬ (nm ≤ i ∧ i < nm + 8) ∧ loc.m i = .here b) := by
   intro i b h
   by_cases hr : nm ≤ i ∧ i < nm + 8
   ·simp only [loc2] at h
    rw [if_pos hr] at h
    exact .inl ⟨_,h,by rw [zdy (by omega)]; omega⟩
   ·by_cases hi : i ∈ ids
    ·obtain ⟨k,hk,rfl⟩ := List.getElem_of_mem hi
     rw [h2pin k hk] at h
     exact .inl ⟨k,h,by rw [zes hk]⟩
    ·exact .inr ⟨hi,hr,by rw [← h2old i hr hi]; exact h⟩
  have hwhere : ∀ k b,loc'.m k = .here b → (b ∈ pb ∨ w.heap.size ≤ b) ∧ b < w'.heap.size := by
   intro k b h
   by_cases hk : k < pb.length
   ·rcases hg.old k hk with h1 | h1
    ·rw [h] at h1; injection h1 with h1; subst h1
     refine ⟨.inl (List.getElem_mem hk),?_⟩
     have := hmutlt _ (hmemMut _ (List.getElem_mem hk))
     have := hg.fram.size
     omega
    ·rw [h] at h1; cases h1
   ·obtain ⟨h1,h2⟩ := hg.new k b (by omega) h
    exact ⟨h1.symm,h2⟩
  have hnotpb : ∀ i b,¬ i ∈ ids → loc.m i = .here b → ¬ b ∈ pb := by
   intro i b hi h hb
   obtain ⟨id',hid',hb'⟩ := hpb.mem hb
   exact hi (he.inj i id' b h hb' ▸ hid')
  have hbadpb : ∀ b,loc.bad b → ¬ b ∈ pb := by
   intro b h hb
   obtain ⟨id',_,hb'⟩ := hpb.mem hb
   have h1 := he.bad b h
   rcases (he.lies id' b hb').2 with h2 | h2
   ·omega
   ·exact h1.2 h2
  have hM : ∀ b,b < w'.heap.size → Mut loc2 b → Mut loc' b := by
   rintro b _ (h | ⟨i,h⟩)
   ·left
    rw [hg.bad]
    exact ⟨.inl h,hbadpb b h⟩
   ·rcases hcase i b h with ⟨k,h1,_⟩ | ⟨h1,h2,h3⟩
    ·exact .inr ⟨k,h1⟩
    ·left
     rw [hg.bad]
     exact ⟨.inr ⟨i,h3⟩,hnotpb i b h1 h3⟩
  have hwsz := hg.fram.size
  have hext : Ext (fun id => id ∈ ids) w loc w' loc2 := by
   refine ⟨hwsz,fun id h hC => h2old id (fun hq => h (hfree id hq.1 hq.2)) hC,fun id h hC => ?_,fun b hb hm => ⟨?_,fun h => ?_⟩,fun id b hb hC => ?_,fun b cur e fz hc => ?_⟩
   ·obtain ⟨k,hk,rfl⟩ := List.getElem_of_mem hC
    rw [h2pin k hk,hpb.at_ k hk (by omega)]
    exact hg.old k (by omega)
   ·exact hg.fram.same b hb (fun h => hm (hmemMut b h))
   ·rcases h with h | ⟨i,h⟩
    ·exact hm (.inl h)
    ·rcases hcase i b h with ⟨k,h1,_⟩ | ⟨_,_,h3⟩
     ·rcases (hwhere k b h1).1 with h2 | h2
      ·exact hm (hmemMut b h2)
      ·omega
     ·exact hm (.inr ⟨i,h3⟩)
   ·exact hg.fram.same b (he.lies id b hb).1 (hnotpb id b hC hb)
   ·by_cases hbp : b ∈ pb
    ·exact hg.fram.shape b cur e fz hbp hc
    ·exact ⟨cur,fz,(hg.fram.same b (Array.getElem?_eq_some_iff.1 hc).1 hbp).trans hc,rfl⟩
  have hr : R w' loc2 (res.x.ren (gOf ids nm)) v := zwz hgm hg.r (.inr hM)
  have hh2 : HR w' loc2 (backO (gOf ids nm) H 0 res.bl) := by
   intro id b hb
   rcases zno res.bl 0 id hb with ⟨j,hj,h1,h2,h3⟩ | ⟨h1,h2⟩
   ·rw [Nat.zero_add] at h1
    rcases hg.bl j hj with ⟨k1,_⟩ | ⟨k1,k2,k3⟩
    ·rw [k1] at h2; cases h2
    ·have := hgm j k2
     rw [h1] at this
     unfold BlkR at k1 ⊢
     rw [this,← h3]
     cases hloc : loc'.m j with
     | free => trivial
     | dead => exact (k3 hloc).elim
     | nil => rw [hloc] at k1; exact ⟨ybb k1.1,by rw [yea]; exact k1.2⟩
     | here c => rw [hloc] at k1; exact ⟨ybb k1.1,zxs hM (fun id' hid' => hgm id' (zpu k1.2 id' hid')) k1.2⟩
   ·have hni : ¬ id ∈ ids := by
     intro hid
     obtain ⟨k,hk,rfl⟩ := List.getElem_of_mem hid
     refine h2 k (by omega) ?_
     rw [Nat.zero_add,zes hk]
    by_cases hfr : loc.m id = .free
    ·by_cases hk : nm ≤ id ∧ id < nm + 8
     ·have hnone : loc'.m (ids.length + (id - nm)) = .free := by
       refine hg.none _ ?_
       rcases Nat.lt_or_ge (ids.length + (id - nm)) res.bl.length with h | h
       ·exfalso
        refine h2 _ h ?_
        rw [Nat.zero_add,zdy (by omega)]; omega
       ·exact h
      exact BlkR.free (by simp only [loc2]; rw [if_pos hk]; exact hnone)
     ·exact BlkR.free (by rw [h2old id hk hni]; exact hfr)
    ·exact (hh id b h1).ext hext hni hfr
  have hE9 : ∀ id b,id ∈ ids → loc.m id = .here b → b < w'.heap.size ∧ (w0.heap.size ≤ b ∨ E b) := by
   intro id b _ h
   have := he.lies id b h
   exact ⟨by omega,this.2⟩
  have henv : Env w0 E w' loc2 := by
   refine ⟨hg.fram.os.trans he.os,hg.fram.tape.trans he.tape,hg.fram.output.trans he.output,by have := he.size; omega,fun b hb hE => ?_,?_,?_,he.bad⟩
   ·rw [hg.fram.same b (by have := he.size; omega) (fun h => ?_)]
    ·exact he.same b hb hE
    ·obtain ⟨id,_,hid⟩ := hpb.mem h
     rcases (he.lies id b hid).2 with h | h
     ·omega
     ·exact hE h
   ·intro i j b hi hj
    rcases hcase i b hi with ⟨k1,h1,e1⟩ | ⟨h1,_,h3⟩
    ·rcases hcase j b hj with ⟨k2,h2,e2⟩ | ⟨h2,_,h4⟩
     ·have := hg.inj k1 k2 b h1 h2
      rw [e1,e2,this]
     ·exfalso
      rcases (hwhere k1 b h1).1 with h5 | h5
      ·exact hnotpb j b h2 h4 h5
      ·have := (he.lies j b h4).1; omega
    ·rcases hcase j b hj with ⟨k2,h2,e2⟩ | ⟨h2,_,h4⟩
     ·exfalso
      rcases (hwhere k2 b h2).1 with h5 | h5
      ·exact hnotpb i b h1 h3 h5
      ·have := (he.lies i b h3).1; omega
     ·exact he.inj i j b h3 h4
   ·intro i b hi
    rcases hcase i b hi with ⟨k1,h1,_⟩ | ⟨_,_,h3⟩
    ·obtain ⟨h5,h6⟩ := hwhere k1 b h1
     refine ⟨h6,?_⟩
     rcases h5 with h5 | h5
     ·obtain ⟨id,_,hid⟩ := hpb.mem h5
      exact (he.lies id b hid).2
     ·exact .inl (by have := he.size; omega)
    ·have := he.lies i b h3
     exact ⟨by omega,this.2⟩
  have hfresh : ∀ id,loc.m id = .free → loc2.m id ≠ .free → nm ≤ id ∧ id < nm + 8 := by
   intro id h1 h2
   by_cases hk : nm ≤ id ∧ id < nm + 8
   ·exact hk
   ·refine (h2 ?_).elim
    rw [h2old id hk (fun hid => by rw [hblk id hid] at h1; cases h1)]
    exact h1
  exact ⟨v,loc2,rfl,⟨hr,hh2,henv,⟨_,hext,fun h => by cases h⟩,hfresh,rfl⟩⟩
end Ax
end Go.Proofs.Ytebacgkeoefnkaa
namespace Go.Proofs.Ytebacgkeoefnkaa
namespace Ax
open Go.RowKit
def idsAt (H : Heap) (id : Nat) : List Nat := match look H id with
 | some b => b.idsB
 | none => []
def idsAtL (H : Heap) : List Nat → List Nat
 | [] => []
 | id :: r => idsAt H id ++ idsAtL H r
def reachE (H : Heap) : Nat → List Nat → List Nat → List Nat
 | 0,acc,_ => acc
 | _ + 1,acc,[] => acc
 | n + 1,acc,id :: r => bif acc.contains id then reachE H n acc r else reachE H n (acc ++ [id]) (r ++ idsAt H id)
def endIds (H : Heap) (pins : List Blk) (x : AV) : List Nat := reachE H 12 (upTo 0 pins) (x.ids ++ idsAtL H (upTo 0 pins))
def walkI (H : Heap) : List Nat → List Nat → Bool
 | _,[] => true
 | good,id :: r => good.contains id && walkI H (good ++ idsAt H id) r
def matchE (g : Nat → Nat) (H : Heap) : Nat → List Nat → List Blk → Prop
 | _,[],[] => True
 | m,id :: r,b :: bl => (match look H id with
  | some c => b.isGone = false ∧ b.renB g = c
  | none => 0 < m ∧ b = gone) ∧ matchE g H (m - 1) r bl
 | _,_,_ => False
def EndsXO (pins : List Blk) (q : Res) (x : AV) (σ : ASt) : Prop :=
 nodup (endIds σ.H pins x) = true ∧ (endIds σ.H pins x).take pins.length = upTo 0 pins ∧ walkI σ.H (upTo 0 pins ++ x.ids) (endIds σ.H pins x) = true ∧
  matchE (gOf (endIds σ.H pins x) σ.nx) σ.H pins.length (endIds σ.H pins x) q.bl ∧ q.x.ren (gOf (endIds σ.H pins x) σ.nx) = x
def EndsO (T : zab) (rs : List ResultVar) (pins : List Blk) (q : Res) : Exit → ASt → Prop
 | .normal,σ => (rvals T σ.H σ.sl rs).1 ∧ EndsXO pins q (rone (rvals T σ.H σ.sl rs).2) σ
 | .ret,σ => (rvals T σ.H σ.sl rs).1 ∧ EndsXO pins q (rone (rvals T σ.H σ.sl rs).2) σ
 | _,_ => False
def ysu (T : zab) (rs : List ResultVar) (pins : List Blk) (q : Res) : Exit → ASt → Prop := fun e σ => ∃ σ',Weak σ σ' ∧ EndsO T rs pins q e σ'
theorem yeh {b : Blk} (h : b.len = 0) : b.idsB = [] := by
 unfold Blk.idsB
 cases hc : b.closed with
 | true => rfl
 | false =>
  cases b with
  | g s xs =>
   have : xs = [] := List.eq_nil_of_length_eq_zero h
   subst this; rfl
  | _ => rfl
theorem zsm {w : World} {loc : Loc} {H : Heap} (hh : HR w loc H) : ∀ (ids good : List Nat),walkI H good ids = true → (∀ id ∈ good,loc.m id ≠ .free) → ∀ id ∈ ids,loc.m id ≠ .free
 | [],_,_,_,id,hid => by simp at hid
 | k :: r,good,hw,hg,id,hid => by
  simp only [walkI,Bool.and_eq_true] at hw
  have hk : k ∈ good := List.contains_iff_mem.1 hw.1
  rcases List.mem_cons.1 hid with rfl | hid
  ·exact hg _ hk
  ·refine zsm hh r _ hw.2 (fun id' hid' => ?_) id hid
   rcases List.mem_append.1 hid' with h | h
   ·exact hg id' h
   ·unfold idsAt at h
    cases hl : look H k with
    | none => rw [hl] at h; simp at h
    | some b =>
     rw [hl] at h
     simp only at h
     obtain ⟨hok,⟨_,e⟩ | ⟨c,hc,hlies⟩⟩ := hh.get hl (hg k hk)
     ·rw [yeh e] at h; simp at h
     ·exact zpu hlies id' h
theorem zsy {g : Nat → Nat} {H : Heap} : ∀ {m : Nat} {ids : List Nat} {bl : List Blk},matchE g H m ids bl → bl.length = ids.length ∧ ∀ (k : Nat) (h : k < ids.length) (h' : k < bl.length),(∃ c,look H ids[k] = some c ∧ bl[k].isGone = false ∧ bl[k].renB g = c) ∨ (look H ids[k] = none ∧ k < m ∧ bl[k] = gone)
 | m,[],[],_ => ⟨rfl,fun k h => by simp at h⟩
 | m,[],_ :: _,h => h.elim
 | m,_ :: _,[],h => h.elim
 | m,id :: r,b :: bl,h => by
  simp only [matchE] at h
  obtain ⟨h1,h2⟩ := zsy h.2
  refine ⟨by simp [h1],fun k a a' => ?_⟩
  cases k with
  | zero =>
   simp only [List.getElem_cons_zero]
   cases hl : look H id with
   | none => rw [hl] at h; exact .inr ⟨rfl,h.1.1,h.1.2⟩
   | some c => rw [hl] at h; exact .inl ⟨c,rfl,h.1.1,h.1.2⟩
  | succ k =>
   simp only [List.getElem_cons_succ]
   rcases h2 k (by simpa using a) (by simpa using a') with h3 | ⟨h3,h4,h5⟩
   ·exact .inl h3
   ·exact .inr ⟨h3,by omega,h5⟩
theorem zxl {g : Nat → Nat} {b : Blk} (h : (b.renB g).ok) : b.ok := by
 unfold Blk.renB at h
 cases hc : b.closed with
 | true => rw [hc] at h; exact h
 | false => rw [hc] at h; exact ykk h
theorem ybg {w : World} {loc loc2 : Loc} {g : Nat → Nat} (hg : ∀ k,loc2.m k = loc.m (g k)) (hb : loc2.bad = loc.bad) {blk : Blk} {b : Nat} (h : Lies w loc (blk.renB g) b) : Lies w loc2 blk b := by
 unfold Blk.renB at h
 cases hc : blk.closed with
 | true =>
  rw [hc] at h
  refine zfm h hc (.inr ?_)
  rintro c _ (h | ⟨i,h⟩)
  ·exact .inl (hb ▸ h)
  ·exact .inr ⟨g i,(hg i) ▸ h⟩
 | false => rw [hc] at h; exact zta hg hb h
theorem ygy {P : Program} {T : zab} (hT : TOk P T) {f : FuncId} {fn : Func} {c : Code} (hf : P.funcs[f]? = some fn) (hb : fn.body = some c) {spec : zas} {Qp : List AV → List Blk → Exit → ASt → Prop}
  (hqp : ∀ xs pins e σ,Qp xs pins e σ → ∃ σ',Weak σ σ' ∧ EndsO T fn.results.toList pins (spec xs pins) e σ')
  (h : ∀ xs pins,(spec xs pins).p → pins.length ≤ 4 ∧ ∀ w0 E B a w,Rel w0 E B ⟨xs ++ List.replicate (fn.ntmps - xs.length) .junk,pinHeap 0 pins,4⟩ a w → c.wp P (Low w0 E B (Qp xs pins)) a w)   : zol P f spec := by
 intro xs pins hp w bad pb vs hlen hnd hbad hlies hxl hx
 obtain ⟨hp4,h⟩ := h xs pins hp
 refine calls_of_wp hf hb ?_
 have hrel : Rel w (· ∈ pb) ⟨bad,pb⟩ ⟨xs ++ List.replicate (fn.ntmps - xs.length) .junk,pinHeap 0 pins,4⟩ { tmps := vs.toArray ++ Array.replicate (fn.ntmps - vs.toArray.size) undef,defers := [] } w := by
  refine ⟨zav pb bad,⟨⟨rfl,fun k hk cur e fz hh => ⟨cur,fz,hh,rfl⟩⟩,by simp only; omega,fun k hk => .inr ⟨by simp [zav,List.getElem?_eq_getElem hk],fun cur e fz hh => ⟨cur,fz,hh,rfl⟩⟩⟩,?_⟩
  refine ⟨by simp [hxl],fun t => ?_,?_,?_,?_,rfl,fun id b hl => ?_⟩
  ·simp only
   rw [zcr]
   by_cases ht : t < xs.length
   ·have e1 : (xs ++ List.replicate (fn.ntmps - xs.length) AV.junk).getD t .junk = xs[t] := by simp [List.getElem?_append_left,ht]
    have e2 : (vs.toArray ++ Array.replicate (fn.ntmps - vs.toArray.size) undef).getD t undef = vs[t]'(by omega) := by
     have : t < vs.length := by omega
     simp [Array.getD_eq_getD_getElem?,Array.getElem?_append,this]
    rw [e1,e2]
    exact hx t ht _
   ·have e1 : (xs ++ List.replicate (fn.ntmps - xs.length) AV.junk).getD t .junk = .junk := by
     rw [List.getD_eq_getElem?_getD,List.getElem?_append_right (by omega),List.getElem?_replicate]
     split <;> rfl
    rw [e1]; exact .junk _
  ·intro id b hl
   obtain ⟨j,hj,rfl,rfl⟩ := zbk pins 0 id b hl
   have hj' : j < pb.length := by omega
   unfold BlkR
   have : (zav pb bad).m (0 + j) = .here pb[j] := by simp [zav,List.getElem?_eq_getElem hj']
   rw [this]
   exact hlies j hj hj'
  ·refine ⟨rfl,rfl,rfl,Nat.le_refl _,fun _ _ _ => rfl,?_,?_,?_⟩
   ·intro i j b hi hj
    obtain ⟨h1,h2⟩ := zby hi
    obtain ⟨h3,h4⟩ := zby hj
    exact zcd hnd (h2.trans h4.symm)
   ·intro i b hi
    obtain ⟨h1,h2⟩ := zby hi
    subst h2
    refine ⟨?_,.inr (List.getElem_mem h1)⟩
    obtain ⟨ob,hh⟩ := zjq (hlies i (by omega) h1).2
    rcases Nat.lt_or_ge pb[i] w.heap.size with h' | h'
    ·exact h'
    ·rw [Array.getElem?_eq_none h'] at hh; cases hh
   ·exact fun b hb => hbad b hb
  ·intro id hid
   simp only at hid
   have : pb[id]? = none := List.getElem?_eq_none (by omega)
   simp [zav,this]
  ·obtain ⟨j,hj,rfl,_⟩ := zbk pins 0 id b hl
   simp; omega
 refine wp_mono (h _ _ _ _ w hrel) ?_
 have main : ∀ a w' σ,Rel w (· ∈ pb) ⟨bad,pb⟩ σ a w' → (rvals T σ.H σ.sl fn.results.toList).1 ∧ EndsXO pins (spec xs pins) (rone (rvals T σ.H σ.sl fn.results.toList).2) σ →
   a.defers = [] ∧ ∃ v,(results fn a.tmps).run P w' = .ok v w' ∧ ∃ v' loc',Ending.returned v = .returned v' ∧ yst w bad pb (spec xs pins) v' w' loc' := by
  rintro a w' σ ⟨loc,hB,hr⟩ ⟨hrv,hnodup,htake,hwalk,hmatch,hren⟩
  obtain ⟨v,hv,hR⟩ := zil (P := P) (fn := fn) hT hr.heap hr.slots hrv
  refine ⟨hr.defers,v,hv,v,?_⟩
  generalize rone (rvals T σ.H σ.sl fn.results.toList).2 = x at hnodup htake hwalk hmatch hren hR
  have hnd' := nodup_iff hnodup
  obtain ⟨hu1,hu2⟩ := zlr pins 0
  generalize hids : endIds σ.H pins x = ids at hnodup htake hwalk hmatch hren hnd'
  obtain ⟨hml,hmg⟩ := zsy hmatch
  have hm : pins.length ≤ ids.length := by
   have := congrArg List.length htake
   rw [List.length_take,hu1] at this; omega
  have hold : ∀ k,(hk : k < pins.length) → ids[k]'(by omega) = k := by
   intro k hk
   have h1 : (ids.take pins.length)[k]'(by rw [List.length_take]; omega) = ids[k]'(by omega) := List.getElem_take
   have h2 : (ids.take pins.length)[k]'(by rw [List.length_take]; omega) = (upTo 0 pins)[k]'(by omega) := by congr 1
   rw [← h1,h2,hu2 k (by omega)]; omega
  have hpinlive : ∀ k,k < pins.length → loc.m k ≠ .free := by
   intro k hk
   have hk' : k < pb.length := by omega
   rcases hB.2.2 k hk' with h1 | ⟨h1,_⟩ <;> rw [h1] <;> simp
  have hliveAll := zsm hr.heap ids (upTo 0 pins ++ x.ids) hwalk (fun id hid => by
   rcases List.mem_append.1 hid with h | h
   ·obtain ⟨j,hj,rfl⟩ := List.getElem_of_mem h
    rw [hu2 j hj,Nat.zero_add]; exact hpinlive j (by omega)
   ·exact zdk x v hR h)
  have hlive : ∀ (k : Nat) (hk : k < ids.length),loc.m ids[k] ≠ .free := fun k hk => hliveAll _ (List.getElem_mem hk)
  classical
  -- what was given up is forgotten
  let C : Nat → Prop := fun id => id < pins.length ∧ look σ.H id = none ∧ loc.m id ≠ .free
  let loc1 : Loc := { m := fun id => if C id then .dead else loc.m id,bad := loc.bad }
  have h1out : ∀ id,¬ C id → loc1.m id = loc.m id := fun id h => by simp only [loc1]; rw [if_neg h]
  have h1in : ∀ id,C id → loc1.m id = .dead := fun id h => by simp only [loc1]; rw [if_pos h]
  have h1here : ∀ id b,loc1.m id = .here b → loc.m id = .here b ∧ ¬ C id := by
   intro id b h
   by_cases hC : C id
   ·rw [h1in id hC] at h; cases h
   ·exact ⟨by rw [← h1out id hC]; exact h,hC⟩
  have hM1 : ∀ b,Mut loc1 b → Mut loc b := by
   rintro b (h | ⟨k,h⟩)
   ·exact .inl h
   ·exact .inr ⟨k,(h1here k b h).1⟩
  have hE1 : Ext C w' loc w' loc1 := ⟨Nat.le_refl _,fun id _ h => h1out id h,fun id _ h => .inr (h1in id h),fun b _ hm => ⟨rfl,fun h => hm (hM1 b h)⟩,fun _ _ _ _ => rfl,fun _ cur _ fz h => ⟨cur,fz,h,rfl⟩⟩
  let g : Nat → Nat := gOf ids σ.nx
  have hgo : ∀ k,(hk : k < ids.length) → g k = ids[k] := fun k hk => zes hk
  have hgn : ∀ k,ids.length ≤ k → loc1.m (g k) = .free := by
   intro k hk
   have h0 : loc.m (g k) = .free := by
    refine hr.fresh _ ?_
    show σ.nx ≤ gOf _ σ.nx k
    rw [zdy hk]; omega
   rw [h1out _ (fun h => h.2.2 h0)]; exact h0
  let loc' : Loc := { m := fun k => loc1.m (g k),bad := loc.bad }
  have hlt : ∀ i b,loc'.m i = .here b → i < ids.length := by
   intro i b hi
   rcases Nat.lt_or_ge i ids.length with h' | h'
   ·exact h'
   ·have : loc'.m i = .free := hgn i h'
    rw [this] at hi; cases hi
  have hinj : ∀ i j b,loc'.m i = .here b → loc'.m j = .here b → i = j := by
   intro i j b hi hj
   have h1 := hlt i b hi
   have h2 := hlt j b hj
   have h3 : g i = g j := hr.env.inj (g i) (g j) b (h1here _ _ hi).1 (h1here _ _ hj).1
   rw [hgo i h1,hgo j h2] at h3
   exact zcd hnd' h3
  refine ⟨loc',rfl,?_⟩
  refine ⟨ygn (loc := loc1) (loc2 := loc') (g := g) (fun _ => rfl) rfl (hR.ext hE1) _ hren,hB.1.1,?_,?_,?_,?_,hinj,?_⟩
  ·intro k hk
   have hk' : k < ids.length := by omega
   have e : loc'.m k = loc1.m ids[k] := by show loc1.m (g k) = _; rw [hgo k hk']
   rcases hmg k hk' hk with ⟨c,q1,q2,q3⟩ | ⟨q1,q2,q3⟩
   ·right
    have hnC : ¬ C ids[k] := fun h => by rw [h.2.1] at q1; cases q1
    have hb := hr.heap _ _ q1
    rw [e,h1out _ hnC]
    refine ⟨?_,hlive k hk',fun hd => by unfold BlkR at hb; rw [hd] at hb; exact hb⟩
    unfold BlkR at hb ⊢
    rw [e,h1out _ hnC]
    split
    ·trivial
    ·rename_i e'; rw [e'] at hb; exact hb
    ·rename_i e'; rw [e'] at hb
     rw [← q3] at hb
     exact ⟨zxl hb.1,by rw [← yea (g := g)]; exact hb.2⟩
    ·rename_i b e'
     rw [e'] at hb
     rw [← q3] at hb
     have h9 : Lies w' loc1 ((spec xs pins).bl[k].renB g) b := by
      have := (BlkR.ext hE1 hnC (hlive k hk') (hr.heap _ _ q1))
      unfold BlkR at this
      rw [h1out _ hnC,e'] at this
      rw [q3]; exact this.2
     exact ⟨zxl hb.1,ybg (loc := loc1) (loc2 := loc') (g := g) (fun _ => rfl) rfl h9⟩
   ·left
    have hkp : k < pins.length := q2
    have hC : C ids[k] := ⟨by rw [hold k hkp]; exact hkp,q1,hlive k hk'⟩
    exact ⟨by rw [q3]; rfl,by rw [e]; exact h1in _ hC⟩
  ·intro k hk
   have hk1 : k < pins.length := by omega
   have e : loc'.m k = loc1.m k := by show loc1.m (g k) = _; rw [hgo k (by omega),hold k hk1]
   rw [e]
   by_cases hC : C k
   ·exact .inr (h1in k hC)
   ·rw [h1out k hC]
    rcases hB.2.2 k hk with h1 | ⟨h1,_⟩
    ·exact .inr h1
    ·exact .inl h1
  ·intro k b hk hkb
   have := hr.env.lies (g k) b (h1here _ _ hkb).1
   exact ⟨this.2,this.1⟩
  ·intro k hk
   exact hgn k (by omega)
  ·refine ⟨hr.env.os,hr.env.tape,hr.env.output,hr.env.size,hr.env.same,?_⟩
   rintro b cur e fz hb hh
   obtain ⟨j,hj,rfl⟩ := List.getElem_of_mem hb
   exact hB.1.2 j hj cur e fz hh
 rintro e a w' ⟨σ0,hr0,hq0⟩
 obtain ⟨σ,hwk,hq⟩ := hqp xs pins e σ0 hq0
 have hr := hwk _ _ _ _ _ hr0
 cases e with
 | normal => exact main a w' σ hr hq
 | ret => exact main a w' σ hr hq
 | _ => exact hq.elim
end Ax
end Go.Proofs.Ytebacgkeoefnkaa
namespace Go.Proofs.Ytebacgkeoefnkaa
namespace Ax
theorem zed {xs : List AV} (j : Nat) (hj : j < xs.length) {id : Nat} (h : id ∈ xs[j].ids) : id ∈ idsL xs := by
 induction xs generalizing j with
 | nil => simp at hj
 | cons x r ih =>
  simp only [idsL,List.mem_append]
  cases j with
  | zero => exact .inl h
  | succ j => exact .inr (ih j (by simpa using hj) h)
def Loc.only (loc : Loc) (F : List Nat) : Loc :=
 { m := fun id => if id ∈ F then loc.m id else .free,bad := fun b => loc.bad b ∨ ∃ id,id ∉ F ∧ loc.m id = .here b }
theorem zgg {loc : Loc} {F : List Nat} {id : Nat} (h : id ∈ F) : (loc.only F).m id = loc.m id := by simp [Loc.only,h]
theorem zsx {loc : Loc} {F : List Nat} {id : Nat} (h : id ∉ F) : (loc.only F).m id = .free := by simp [Loc.only,h]
theorem only_mut {loc : Loc} {F : List Nat} {b : Nat} : Mut (loc.only F) b ↔ Mut loc b := by
 constructor
 ·rintro ((h | ⟨id,_,h⟩) | ⟨id,h⟩)
  ·exact .inl h
  ·exact .inr ⟨id,h⟩
  ·by_cases hF : id ∈ F
   ·rw [zgg hF] at h; exact .inr ⟨id,h⟩
   ·rw [zsx hF] at h; cases h
 ·rintro (h | ⟨id,h⟩)
  ·exact .inl (.inl h)
  ·by_cases hF : id ∈ F
   ·exact .inr ⟨id,by rw [zgg hF]; exact h⟩
   ·exact .inl (.inr ⟨id,hF,h⟩)
theorem R.agree {w : World} {loc loc' : Loc} (hM : ∀ b,b < w.heap.size → Mut loc' b → Mut loc b) {x : AV} {v : Value} (h : R w loc x v) (hq : ∀ id ∈ x.ids,loc.m id ≠ .free → loc'.m id = loc.m id) : R w loc' x v := by
 induction h with
 | w v h => exact .w v h
 | str bs => exact .str bs
 | agg xs cs hl hx _ ih => exact .agg xs cs hl hx fun j h1 h2 => ih j h1 h2 fun id hid => hq id (by simp only [AV.ids]; exact zed j h1 hid)
 | tup xs cs hl _ ih => exact .tup xs cs hl fun j h1 h2 => ih j h1 h2 fun id hid => hq id (by simp only [AV.ids]; exact zed j h1 hid)
 | sb bs full a cap hd hc => exact .sb bs full a cap hd (hc.move hM)
 | si ns full a cap hd hc => exact .si ns full a cap hd (hc.move hM)
 | sg s xs full a cap cs hd hs hc hl hx h1 ih => exact .sg s xs full a cap cs hd hs (hc.move hM) hl hx fun j h2 h3 => (h1 j h2 h3).move hM (hx j h2).2
 | cp ls a cs hc hn hl hx h1 ih => exact .cp ls a cs (hc.move hM) hn hl hx fun j h2 h3 => (h1 j h2 h3).move hM (hx j h2).2
 | ms id s off len v h =>
  have hf : loc.m id ≠ .free := by intro e; simp [Owns,e] at h
  have e := hq id (by simp [AV.ids]) hf
  refine .ms id s off len v ?_
  unfold Owns at h ⊢
  rw [e]; exact h
 | rf id s i f v h =>
  have hf : loc.m id ≠ .free := by intro e; simp [Points,e] at h
  have e := hq id (by simp [AV.ids]) hf
  refine .rf id s i f v ?_
  unfold Points at h ⊢
  rw [e]; exact h
 | fn f caps cs hl _ ih => exact .fn f caps cs hl fun j h1 h2 => ih j h1 h2 fun id hid => hq id (by simp only [AV.ids]; exact zed j h1 hid)
 | junk v => exact .junk v
theorem R.only {w : World} {loc : Loc} {F : List Nat} {x : AV} {v : Value} (h : R w loc x v) (hq : ∀ id ∈ x.ids,id ∈ F) : R w (loc.only F) x v :=
 h.agree (fun b _ hb => only_mut.1 hb) fun id hid _ => zgg (hq id hid)
theorem BlkR.only {w : World} {loc : Loc} {F : List Nat} {id : Nat} {blk : Blk} (h : BlkR w loc id blk) (hF : id ∈ F) (hq : ∀ k ∈ idsL blk.flat,k ∈ F) : BlkR w (loc.only F) id blk := by
 unfold BlkR at h ⊢
 rw [zgg hF]
 split
 ·trivial
 ·rename_i e; rw [e] at h; exact h
 ·rename_i e; rw [e] at h; exact h
 ·rename_i b e
  rw [e] at h
  obtain ⟨hok,hl⟩ := h
  rcases zbd blk with ⟨x,hx,rfl⟩ | hodd
  ·exact ⟨hok,.mkO (Thing.move (fun b _ hb => only_mut.1 hb) (hl.is hx)) hx⟩
  obtain ⟨cur,el,fz,h1,h2,h3,h4,h5⟩ := hl.lies hodd
  exact ⟨hok,.mkC ⟨cur,el,fz,h1,h2,h3,h4,fun j hj hj' => ⟨(h5 j hj hj').1,(h5 j hj hj').2.only fun k hk => hq k (zed j hj hk)⟩⟩ hodd⟩
def Loc.back (loc loc' : Loc) (F : List Nat) (nm : Nat) : Loc :=
 { m := fun id => if id ∈ F ∨ (nm ≤ id ∧ id < nm + 8) then loc'.m id else loc.m id,bad := loc.bad }
section
variable {w0 : World} {E : Nat → Prop} {w : World} {loc : Loc} {F : List Nat} {nm : Nat}
def InF (loc : Loc) (F : List Nat) (b : Nat) : Prop := ∃ id,id ∈ F ∧ loc.m id = .here b
theorem Env.only (he : Env w0 E w loc) : Env w (InF loc F) w (loc.only F) := by
 refine ⟨rfl,rfl,rfl,Nat.le_refl _,fun _ _ _ => rfl,?_,?_,?_⟩
 ·intro i j b hi hj
  by_cases h1 : i ∈ F
  ·by_cases h2 : j ∈ F
   ·rw [zgg h1] at hi; rw [zgg h2] at hj
    exact he.inj i j b hi hj
   ·rw [zsx h2] at hj; cases hj
  ·rw [zsx h1] at hi; cases hi
 ·intro i b hi
  by_cases h1 : i ∈ F
  ·rw [zgg h1] at hi
   exact ⟨(he.lies i b hi).1,.inr ⟨i,h1,hi⟩⟩
  ·rw [zsx h1] at hi; cases hi
 ·rintro b (hb | ⟨id,hF,hb⟩)
  ·obtain ⟨h1,h2⟩ := he.bad b hb
   refine ⟨Nat.lt_of_lt_of_le h1 he.size,?_⟩
   rintro ⟨id,_,hid⟩
   rcases (he.lies id b hid).2 with h3 | h3
   ·omega
   ·exact h2 h3
  ·refine ⟨(he.lies id b hb).1,?_⟩
   rintro ⟨k,hk,hkb⟩
   exact hF (he.inj k id b hkb hb ▸ hk)
theorem Post.frame (he : Env w0 E w loc) (hfree : ∀ id,nm ≤ id → id < nm + 8 → loc.m id = .free) {wr : Bool} {x : AV} {H : Heap} {v : Value} {w' : World} {loc' : Loc}
  (hH : ∀ id b,look H id = some b → id ∈ F ∨ (nm ≤ id ∧ id < nm + 8)) (hp : Post w (InF loc F) w (loc.only F) wr nm x H v w' loc') :
  Post w0 E w loc wr nm x H v w' (loc.back loc' F nm) ∧ ∃ C : Nat → Prop,Ext C w loc w' (loc.back loc' F nm) ∧ (wr = false → ∀ id,¬ C id) ∧ ∀ id,C id → id ∈ F := by
 have hin : ∀ id,(id ∈ F ∨ (nm ≤ id ∧ id < nm + 8)) → (loc.back loc' F nm).m id = loc'.m id := fun id h => by simp [Loc.back,h]
 have hout : ∀ id,¬ (id ∈ F ∨ (nm ≤ id ∧ id < nm + 8)) → (loc.back loc' F nm).m id = loc.m id := fun id h => by simp only [Loc.back]; rw [if_neg h]
 have hnew : ∀ id,loc'.m id ≠ .free → id ∈ F ∨ (nm ≤ id ∧ id < nm + 8) := by
  intro id h
  by_cases hF : id ∈ F
  ·exact .inl hF
  ·exact .inr (hp.fresh id (zsx hF) h)
 have hseen : ∀ b,loc.bad b → ¬ InF loc F b := by
  rintro b hb ⟨id,_,hid⟩
  obtain ⟨h1,h2⟩ := he.bad b hb
  rcases (he.lies id b hid).2 with h3 | h3
  ·omega
  ·exact h2 h3
 have hmut : ∀ b,Mut (loc.back loc' F nm) b → Mut loc' b := by
  rintro b (hb | ⟨id,hid⟩)
  ·refine .inl ?_
   rw [hp.bad]; exact .inl hb
  ·by_cases h : id ∈ F ∨ (nm ≤ id ∧ id < nm + 8)
   ·rw [hin id h] at hid; exact .inr ⟨id,hid⟩
   ·rw [hout id h] at hid
    exact .inl (by rw [hp.bad]; exact .inr ⟨id,fun hF => h (.inl hF),hid⟩)
 have hr : ∀ {y : AV} {u : Value},R w' loc' y u → R w' (loc.back loc' F nm) y u := fun h => h.agree (fun b _ => hmut b) fun id _ hf => hin id (hnew id hf)
 have henv : Env w0 E w' (loc.back loc' F nm) := by
  refine ⟨hp.env.os.trans he.os,hp.env.tape.trans he.tape,hp.env.output.trans he.output,Nat.le_trans he.size hp.env.size,?_,?_,?_,?_⟩
  ·intro b hb hE
   rw [hp.env.same b (Nat.lt_of_lt_of_le hb he.size) ?_]
   ·exact he.same b hb hE
   ·rintro ⟨id,_,hid⟩
    rcases (he.lies id b hid).2 with h3 | h3
    ·omega
    ·exact hE h3
  ·have hcross : ∀ i j b,(i ∈ F ∨ (nm ≤ i ∧ i < nm + 8)) → ¬ (j ∈ F ∨ (nm ≤ j ∧ j < nm + 8)) → loc'.m i = .here b → loc.m j = .here b → False := by
    intro i j b _ hj h1 h2
    have hbad : loc'.bad b := by rw [hp.bad]; exact .inr ⟨j,fun hF => hj (.inl hF),h2⟩
    obtain ⟨h3,h4⟩ := hp.env.bad b hbad
    rcases (hp.env.lies i b h1).2 with h5 | h5
    ·omega
    ·exact h4 h5
   intro i j b hi hj
   by_cases h1 : i ∈ F ∨ (nm ≤ i ∧ i < nm + 8)
   ·rw [hin i h1] at hi
    by_cases h2 : j ∈ F ∨ (nm ≤ j ∧ j < nm + 8)
    ·rw [hin j h2] at hj
     exact hp.env.inj i j b hi hj
    ·rw [hout j h2] at hj
     exact (hcross i j b h1 h2 hi hj).elim
   ·rw [hout i h1] at hi
    by_cases h2 : j ∈ F ∨ (nm ≤ j ∧ j < nm + 8)
    ·rw [hin j h2] at hj
     exact (hcross j i b h2 h1 hj hi).elim
    ·rw [hout j h2] at hj
     exact he.inj i j b hi hj
  ·intro i b hi
   by_cases h1 : i ∈ F ∨ (nm ≤ i ∧ i < nm + 8)
   ·rw [hin i h1] at hi
    obtain ⟨h2,h3⟩ := hp.env.lies i b hi
    refine ⟨h2,?_⟩
    rcases h3 with h3 | ⟨k,_,hk⟩
    ·exact .inl (Nat.le_trans he.size h3)
    ·exact (he.lies k b hk).2
   ·rw [hout i h1] at hi
    obtain ⟨h2,h3⟩ := he.lies i b hi
    exact ⟨Nat.lt_of_lt_of_le h2 hp.env.size,h3⟩
  ·intro b hb; exact he.bad b hb
 have hext : ∃ C : Nat → Prop,Ext C w loc w' (loc.back loc' F nm) ∧ (wr = false → ∀ id,¬ C id) ∧ ∀ id,C id → id ∈ F := by
  obtain ⟨C,hE,hC⟩ := hp.ext
  have hnr : ∀ id,loc.m id ≠ .free → id ∉ F → ¬ (id ∈ F ∨ (nm ≤ id ∧ id < nm + 8)) := by
   rintro id h1 h2 (h3 | h3)
   ·exact h2 h3
   ·exact h1 (hfree id h3.1 h3.2)
  have hhid : ∀ id b,loc.m id = .here b → id ∉ F → w'.heap[b]? = w.heap[b]? := by
   intro id b h1 h2
   refine hp.env.same b (he.lies id b h1).1 ?_
   rintro ⟨k,hk,hkb⟩
   exact h2 (he.inj k id b hkb h1 ▸ hk)
  refine ⟨fun id => C id ∧ id ∈ F,⟨hE.size,?_,?_,?_,?_,?_⟩,fun h id hc => hC h id hc.1,fun id hc => hc.2⟩
  ·intro id hf hc
   by_cases hF : id ∈ F
   ·rw [hin id (.inl hF)]
    have := hE.keep id (by rw [zgg hF]; exact hf) (fun h => hc ⟨h,hF⟩)
    rw [this,zgg hF]
   ·exact hout id (hnr id hf hF)
  ·rintro id hf ⟨hc,hF⟩
   rw [hin id (.inl hF)]
   have := hE.gone id (by rw [zgg hF]; exact hf) hc
   rw [zgg hF] at this
   exact this
  ·intro b hb hm
   obtain ⟨h1,h2⟩ := hE.imm b hb (fun h => hm (only_mut.1 h))
   exact ⟨h1,fun h => h2 (hmut b h)⟩
  ·intro id b hb hc
   by_cases hF : id ∈ F
   ·exact hE.own id b (by rw [zgg hF]; exact hb) (fun h => hc ⟨h,hF⟩)
   ·exact hhid id b hb hF
  ·intro b cur e fz hh
   exact hE.shape b cur e fz hh
 refine ⟨⟨hr hp.r,?_,henv,?_,?_,rfl⟩,hext⟩
 ·intro id blk hl
  have h0 := hH id blk hl
  have h1 := hp.h id blk hl
  unfold BlkR at h1 ⊢
  rw [hin id h0]
  split
  ·trivial
  ·rename_i e; rw [e] at h1; exact h1
  ·rename_i e; rw [e] at h1; exact h1
  ·rename_i b e
   rw [e] at h1
   obtain ⟨hok,hl1⟩ := h1
   rcases zbd blk with ⟨x,hx,rfl⟩ | hodd
   ·exact ⟨hok,.mkO (Thing.move (fun b _ hb => hmut b hb) (hl1.is hx)) hx⟩
   obtain ⟨cur,el,fz,a1,a2,a3,a4,a5⟩ := hl1.lies hodd
   exact ⟨hok,.mkC ⟨cur,el,fz,a1,a2,a3,a4,fun j hj hj' => ⟨(a5 j hj hj').1,hr (a5 j hj hj').2⟩⟩ hodd⟩
 ·obtain ⟨C,h1,h2,_⟩ := hext
  exact ⟨C,h1,h2⟩
 ·intro id hf hn
  by_cases h : id ∈ F ∨ (nm ≤ id ∧ id < nm + 8)
  ·rcases h with h | h
   ·rw [hin id (.inl h)] at hn
    exact hp.fresh id (by rw [zgg h]; exact hf) hn
   ·exact h
  ·rw [hout id h] at hn; exact (hn hf).elim
end
end Ax
end Go.Proofs.Ytebacgkeoefnkaa
namespace Go.Proofs.Ytebacgkeoefnkaa
namespace Ax
def Blk.ids : Blk → List Nat
 | .g _ xs => idsL xs
 | _ => []
def keepIn (F : List Nat) : Heap → Heap
 | [] => []
 | (k,b) :: r => bif F.contains k then (k,b) :: keepIn F r else keepIn F r
def dropIn (F : List Nat) : Heap → Heap
 | [] => []
 | (k,b) :: r => bif F.contains k then dropIn F r else (k,b) :: dropIn F r
def bids : Heap → List Nat
 | [] => []
 | (_,b) :: r => b.ids ++ bids r
def footA (sl : List AV) (op : Op) : List Nat := idsL (op.operands.toList.map (ev sl))
def foot (sl : List AV) (op : Op) (H : Heap) : List Nat := footA sl op ++ bids (keepIn (footA sl op) H)
def heldB (nm : Nat) (F : List Nat) (H : Heap) : Bool := F.all (fun id => bif (look H id).isSome then true else decide (id < nm)) && (bids (keepIn F H)).all F.contains
def aopF (S : zah) (T : zab) (nm : Nat) (sl : List AV) (op : Op) (H : Heap) : Out :=
 ⟨heldB nm (foot sl op H) H = true ∧ (aop S T nm sl op (keepIn (foot sl op H) H)).p,(aop S T nm sl op (keepIn (foot sl op H) H)).x,(aop S T nm sl op (keepIn (foot sl op H) H)).H ++ dropIn (foot sl op H) H⟩
theorem zdx (A B : Heap) (id : Nat) : look (A ++ B) id = match look A id with | some b => some b | none => look B id := by
 induction A with
 | nil => rfl
 | cons p r ih =>
  obtain ⟨k,b⟩ := p
  simp only [List.cons_append,look]
  by_cases h : k = id
  ·rw [if_pos h,if_pos h]
  ·rw [if_neg h,if_neg h,ih]
theorem zdv (F : List Nat) (H : Heap) (id : Nat) : look (keepIn F H) id = if id ∈ F then look H id else none := by
 induction H with
 | nil => simp [keepIn,look]
 | cons p r ih =>
  obtain ⟨k,b⟩ := p
  by_cases hk : k ∈ F
  ·simp only [keepIn,List.contains_iff_mem.2 hk,cond_true,look]
   by_cases h : k = id
   ·subst h; simp [hk]
   ·simp [h,ih]
  ·have : F.contains k = false := by simpa using hk
   simp only [keepIn,this,cond_false,look,ih]
   by_cases h : k = id
   ·subst h; simp [hk]
   ·simp [h]
theorem zdw (F : List Nat) (H : Heap) (id : Nat) : look (dropIn F H) id = if id ∈ F then none else look H id := by
 induction H with
 | nil => simp [dropIn,look]
 | cons p r ih =>
  obtain ⟨k,b⟩ := p
  by_cases hk : k ∈ F
  ·simp only [dropIn,List.contains_iff_mem.2 hk,cond_true,look,ih]
   by_cases h : k = id
   ·subst h; simp [hk]
   ·simp [h]
  ·have : F.contains k = false := by simpa using hk
   simp only [dropIn,this,cond_false,look]
   by_cases h : k = id
   ·subst h; simp [hk]
   ·simp [h,ih]
theorem ypw {H : Heap} {id : Nat} {b : Blk} (h : look H id = some b) {k : Nat} (hk : k ∈ b.ids) : k ∈ bids H := by
 induction H with
 | nil => simp [look] at h
 | cons p r ih =>
  obtain ⟨q,c⟩ := p
  simp only [look] at h
  simp only [bids,List.mem_append]
  split at h
  ·injection h with h; subst h; exact .inl hk
  ·exact .inr (ih h)
theorem yhq : ∀ (x : AV) (k : Nat),k ∈ idsL x.leaves → k ∈ x.ids := by
 intro x k h
 cases x <;> simp [AV.leaves,AV.ids,idsL] at h ⊢ <;> first | exact h | skip
theorem ybm (xs ys : List AV) : idsL (xs ++ ys) = idsL xs ++ idsL ys := by
 induction xs with
 | nil => rfl
 | cons x r ih => simp [idsL,ih]
theorem yep {b : Blk} {k : Nat} (h : k ∈ idsL b.flat) : k ∈ b.ids := by
 cases b with
 | o x => simp [Blk.flat,idsL] at h
 | b bs =>
  exfalso
  simp only [Blk.flat] at h
  induction bs with
  | nil => simp [idsL] at h
  | cons x r ih => simp [idsL,AV.ids] at h; exact ih (by simpa using h)
 | i ns =>
  exfalso
  simp only [Blk.flat] at h
  induction ns with
  | nil => simp [idsL] at h
  | cons x r ih => simp [idsL,AV.ids] at h; exact ih (by simpa using h)
 | g s xs =>
  simp only [Blk.flat,Blk.ids] at h ⊢
  induction xs with
  | nil => simp [idsL] at h
  | cons x r ih =>
   simp only [List.flatMap_cons,ybm,List.mem_append,idsL] at h ⊢
   exact h.imp (yhq x k) ih
section
variable {S : zah} {T : zab} {nm : Nat} {sl : List AV} {op : Op} {H : Heap}
theorem held_in (h : heldB nm (foot sl op H) H = true) {id : Nat} (hF : id ∈ foot sl op H) : look H id ≠ none ∨ id < nm := by
 simp only [heldB,Bool.and_eq_true,List.all_eq_true] at h
 have := h.1 id hF
 by_cases e : look H id = none
 ·rw [e] at this; exact .inr (by simpa using this)
 ·exact .inl e
theorem zuk (hp : (aopF S T nm sl op H).p) :
  (∀ id b,look (aopF S T nm sl op H).H id = some b → look H id ≠ none ∨ (nm ≤ id ∧ id < nm + 8)) ∧
  (∀ id,(zae T op ≤ 1 ∨ id ∉ foot sl op H) → ¬ (nm ≤ id ∧ id < nm + 8) → look (aopF S T nm sl op H).H id = look H id) ∧
  (zae T op = 0 → ∀ id,look (aopF S T nm sl op H).H id = look H id) := by
 obtain ⟨hh,hp⟩ := hp
 have hn := zew hp
 have hk := fun (h : zae T op ≤ 1) => ybo h hp
 have hz : zae T op = 0 → (aop S T nm sl op (keepIn (foot sl op H) H)).H = keepIn (foot sl op H) H := fun h => (zpq (H := keepIn (foot sl op H) H) h hp).2.2
 simp only [aopF]
 generalize foot sl op H = F at hh hp hn hk hz ⊢
 generalize aop S T nm sl op (keepIn F H) = out at hp hn hk hz ⊢
 refine ⟨fun id b h => ?_,fun id h hr => ?_,fun h id => ?_⟩
 ·rw [zdx] at h
  cases h1 : look out.H id with
  | some c =>
   rcases hn id c h1 with h2 | h2
   ·rw [zdv] at h2
    split at h2
    ·exact .inl h2
    ·exact (h2 rfl).elim
   ·exact .inr h2
  | none =>
   simp only [h1,zdw] at h
   split at h
   ·cases h
   ·exact .inl (by rw [h]; simp)
 ·rw [zdx]
  by_cases hF : id ∈ F
  ·have h := h.resolve_right (fun h => h hF)
   have h1 := hk h id hr
   rw [h1,zdv,if_pos hF,zdw,if_pos hF]
   cases look H id <;> rfl
  ·have h1 : look out.H id = none := by
    cases h1 : look out.H id with
    | none => rfl
    | some c =>
     rcases hn id c h1 with h2 | h2
     ·rw [zdv,if_neg hF] at h2; exact (h2 rfl).elim
     ·exact (hr h2).elim
   simp [h1,zdw,hF]
 ·rw [zdx,hz h,zdv,zdw]
  by_cases hF : id ∈ F
  ·rw [if_pos hF,if_pos hF]
   cases look H id <;> rfl
  ·rw [if_neg hF,if_neg hF]
theorem yaz {x : Operand} (hx : x ∈ op.operands.toList) {id : Nat} (h : id ∈ (ev sl x).ids) : id ∈ foot sl op H := by
 unfold foot footA
 refine List.mem_append_left _ ?_
 obtain ⟨j,hj,e⟩ := List.mem_iff_getElem.1 hx
 exact zed j (by simpa using hj) (by simpa [e] using h)
theorem zuj {P : Program} {w0 : World} {E : Nat → Prop} {w : World} {loc : Loc} (hT : TOk P T) (hS : Fns P S) (he : Env w0 E w loc) (hh : ∀ id b,id ∈ foot sl op H → look H id = some b → BlkR w loc id b) (hfree : ∀ id,nm ≤ id → id < nm + 8 → loc.m id = .free) {a : Act} {o : Oper} (ho : o.op = op)
  (hev : ∀ x ∈ op.operands.toList,R w loc (ev sl x) (a.eval x)) (hp : (aopF S T nm sl op H).p) (next : Act → World → Prop) (Q : Exit → Act → World → Prop)
  (hn : ∀ v w' loc' wr,Post w0 E w loc wr nm (aopF S T nm sl op H).x (aop S T nm sl op (keepIn (foot sl op H) H)).H v w' loc' → (∃ C : Nat → Prop,Ext C w loc w' loc' ∧ (zae T op ≤ 1 → ∀ id,¬ C id) ∧ ∀ id,C id → id ∈ foot sl op H) → next (a.put o.dst v) w') : o.wp P a w next Q := by
 subst ho
 obtain ⟨hheld,hp⟩ := hp
 have hheld' : ∀ k,k ∈ bids (keepIn (foot sl o.op H) H) → k ∈ foot sl o.op H := by
  intro k hk
  simp only [heldB,Bool.and_eq_true,List.all_eq_true] at hheld
  exact List.contains_iff_mem.1 (hheld.2 k hk)
 have hHR : HR w (loc.only (foot sl o.op H)) (keepIn (foot sl o.op H) H) := by
  intro id b hl
  have hl' := hl
  rw [zdv] at hl
  split at hl
  ·rename_i hF
   exact (hh id b hF hl).only hF fun k hk => hheld' k (ypw hl' (yep hk))
  ·cases hl
 refine zce hT hS he.only hHR (fun id h1 h2 => ?_) o (fun x hx => (hev x hx).only fun id hid => yaz hx hid) hp next Q (fun v w' loc' hpost => ?_)
 ·by_cases hF : id ∈ foot sl o.op H
  ·rw [zgg hF]; exact hfree id h1 h2
  ·exact zsx hF
 ·have hids : ∀ id b,look (aop S T nm sl o.op (keepIn (foot sl o.op H) H)).H id = some b → id ∈ foot sl o.op H ∨ (nm ≤ id ∧ id < nm + 8) := by
   intro id b hl
   rcases zew hp id b hl with h | h
   ·rw [zdv] at h
    split at h
    ·rename_i hF; exact .inl hF
    ·exact (h rfl).elim
   ·exact .inr h
  obtain ⟨h1,C,h2,h3,h4⟩ := Post.frame he hfree hids hpost
  exact hn v w' _ _ h1 ⟨C,h2,fun hk => h3 (zkz hk hp),h4⟩
end
end Ax
end Go.Proofs.Ytebacgkeoefnkaa
