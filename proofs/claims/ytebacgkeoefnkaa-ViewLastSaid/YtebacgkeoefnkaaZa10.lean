/- What the proofs of this seat stand on; it asks nothing. -/
import Derived.Test.YtebacgkeoefnkaaZa09
set_option linter.unusedSimpArgs false
set_option linter.unusedVariables false
namespace Go.Proofs.Ytebacgkeoefnkaa
namespace Ax
mutual
def AV.fp (id : Nat) (c0 : Value) : AV → AV
 | .agg xs => .agg (fpL id c0 xs)
 | .tup xs => .tup (fpL id c0 xs)
 | .fn f cs => .fn f (fpL id c0 cs)
 | .rf k s i f => bif k == id then (bif s == 1 && (i == 0 && f == 0) then .cp [.w c0] else .rf k s i f) else .rf k s i f
 | x => x
def fpL (id : Nat) (c0 : Value) : List AV → List AV
 | [] => []
 | x :: xs => x.fp id c0 :: fpL id c0 xs
end
theorem zfq (id : Nat) (c0 : Value) : ∀ (xs : List AV),(fpL id c0 xs).length = xs.length ∧ ∀ (j : Nat) (h : j < (fpL id c0 xs).length) (h' : j < xs.length),(fpL id c0 xs)[j] = xs[j].fp id c0
 | [] => ⟨rfl,fun j h => by simp [fpL] at h⟩
 | x :: xs => by
  obtain ⟨h1,h2⟩ := zfq id c0 xs
  refine ⟨by simp [fpL,h1],fun j h h' => ?_⟩
  cases j with
  | zero => rfl
  | succ j => exact h2 j (by simpa [fpL] using h) (by simpa using h')
theorem ymc {id : Nat} {c0 : Value} {x : AV} (h : x.leaf = true) : (x.fp id c0).leaf = true := by
 cases x <;> first | exact h | (simp [AV.leaf] at h; done) | skip
 simp only [AV.fp]
 cases (_ == id) with
 | false => rfl
 | true =>
  simp only [cond_true]
  cases (_ && _ : Bool) <;> rfl
theorem fp_R {w : World} {loc : Loc} {id : Nat} {c0 : Value} (hor : ∃ b,loc.m id = .here b ∧ b < w.heap.size ∧ Lies w loc (.g 1 [.w c0]) b ∧ (∀ k,loc.m k = .here b → k = id) ∧ ¬ loc.bad b) {x : AV} {v : Value} (h : R w loc x v) : R w (loc.set id .dead) (x.fp id c0) v := by
 have hM : ∀ c,Mut (loc.set id .dead) c → Mut loc c := by
  rintro c (h | ⟨k,h⟩)
  ·exact .inl h
  ·by_cases hk : k = id
   ·subst hk; rw [Loc.set_same] at h; cases h
   ·rw [Loc.set_other _ _ hk] at h; exact .inr ⟨k,h⟩
 have hC : ∀ {a cs},Cells w loc a cs → Cells w (loc.set id .dead) a cs := fun h => h.move (fun b _ hm => hM b hm)
 induction h with
 | w v h => exact .w v h
 | str bs => exact .str bs
 | agg xs cs hl hx _ ih =>
  obtain ⟨h1,h2⟩ := zfq id c0 xs
  refine .agg _ cs (by rw [h1,hl]) (fun j hj => ?_) (fun j a b => ?_)
  ·rw [h2 j hj (by rw [← h1]; exact hj)]; exact ymc (hx j _)
  ·rw [h2 j a (by rw [← h1]; exact a)]; exact ih j _ b
 | tup xs cs hl _ ih =>
  obtain ⟨h1,h2⟩ := zfq id c0 xs
  refine .tup _ cs (by rw [h1,hl]) (fun j a b => ?_)
  rw [h2 j a (by rw [← h1]; exact a)]; exact ih j _ b
 | sb bs full a cap hd hc => exact .sb bs full a cap hd (hC hc)
 | si ns full a cap hd hc => exact .si ns full a cap hd (hC hc)
 | sg s xs full a cap cs hd hs hc hl hx h _ => exact .sg s xs full a cap cs hd hs (hC hc) hl hx (fun j a b => (h j a b).move (fun b _ hm => hM b hm) (hx j a).2)
 | cp ls a cs hc hn hl hx h _ => exact .cp ls a cs (hC hc) hn hl hx (fun j a b => (h j a b).move (fun b _ hm => hM b hm) (hx j a).2)
 | ms k s off len v h =>
  refine .ms _ _ _ _ _ ?_
  by_cases hk : k = id
  ·subst hk; unfold Owns; rw [Loc.set_same]; exact h.one
  ·unfold Owns at h ⊢; rw [Loc.set_other _ _ hk]; exact h
 | rf k s i f v h =>
  have hkeep : R w (loc.set id .dead) (.rf k s i f) v := by
   refine .rf _ _ _ _ _ ?_
   by_cases hk : k = id
   ·subst hk; unfold Points; rw [Loc.set_same]; exact h.one
   ·unfold Points at h ⊢; rw [Loc.set_other _ _ hk]; exact h
  simp only [AV.fp]
  by_cases hk : k = id
  ·subst hk
   simp only [beq_self_eq_true,cond_true]
   cases hc : (s == 1 && (i == 0 && f == 0)) with
   | false => exact hkeep
   | true =>
    simp only [cond_true]
    simp only [Bool.and_eq_true,beq_iff_eq] at hc
    obtain ⟨rfl,rfl,rfl⟩ := hc
    obtain ⟨b,hb,hlt,hl,hinj,hnb⟩ := hor
    unfold Points at h
    rw [hb] at h
    subst h
    rw [zay (by decide)]
    obtain ⟨cur,e,fz,hh,hf,hone,hfl,hr⟩ := hl.lies
    have hsz : 0 < cur.size := by simp [Blk.flat,AV.leaves] at hfl; omega
    have h0 := (hr 0 (by simp [Blk.flat,AV.leaves]) hsz).2
    have h0 : R w loc (.w c0) cur[0] := h0
    have hwv := h0.wv
    refine .cp [.w c0] ⟨b,0 * 1 + 0,none⟩ [c0] ⟨.inr ⟨b,0,rfl,?_,hlt,fun j hj => ?_⟩⟩ (by simp) rfl (fun j hj => ?_) (fun j x y => ?_)
    ·rintro (hq | ⟨i,hq⟩)
     ·exact hnb hq
     ·by_cases hk : i = k
      ·subst hk; rw [Loc.set_same] at hq; cases hq
      ·rw [Loc.set_other _ _ hk] at hq; exact hk (hinj i hq)
    ·simp at hj
     subst hj
     simp [World.cell?,hh,hsz,hwv]
    ·simp at hj
     subst hj
     simp [AV.leaf,AV.closed]
     rw [← hwv]; exact hone 0 hsz
    ·simp at x
     subst x
     cases h0 with
     | w v h => exact .w _ h
  ·have : (k == id) = false := by simpa using hk
   rw [this]; exact hkeep
 | fn f caps cs hl _ ih =>
  obtain ⟨h1,h2⟩ := zfq id c0 caps
  refine .fn f _ cs (by rw [h1,hl]) (fun j a b => ?_)
  rw [h2 j a (by rw [← h1]; exact a)]; exact ih j _ b
 | junk v => exact .junk v
def Blk.fp (id : Nat) (c0 : Value) : Blk → Blk
 | .g s xs => .g s (fpL id c0 xs)
 | .b cs => .b cs
 | .i ns => .i ns
 | .o x => .o x
theorem odd_fp {id : Nat} {c0 : Value} {b : Blk} : (b.fp id c0).odd = b.odd := by cases b <;> rfl
theorem yte {id : Nat} {c0 : Value} {b : Blk} : (b.fp id c0).size = b.size := by cases b <;> rfl
def fpH (id : Nat) (c0 : Value) : Heap → Heap
 | [] => []
 | p :: r => bif p.1 == id then fpH id c0 r else (p.1,p.2.fp id c0) :: fpH id c0 r
theorem zxu (id : Nat) (c0 : Value) (x : AV) : (x.fp id c0).leaves = fpL id c0 x.leaves := by
 cases x <;> first | rfl | skip
 simp only [AV.fp,AV.leaves,fpL]
 cases (_ == id) with
 | false => rfl
 | true =>
  simp only [cond_true]
  cases (_ && _ : Bool) <;> rfl
theorem ztk (id : Nat) (c0 : Value) : ∀ (xs ys : List AV),fpL id c0 (xs ++ ys) = fpL id c0 xs ++ fpL id c0 ys
 | [],_ => rfl
 | x :: xs,ys => by simp [fpL,ztk id c0 xs ys]
theorem ymn (id : Nat) (c0 : Value) (b : Blk) : (b.fp id c0).flat = fpL id c0 b.flat := by
 cases b with
 | b cs =>
  simp only [Blk.fp,Blk.flat]
  induction cs with
  | nil => rfl
  | cons c r ih => simp only [List.map_cons,fpL,AV.fp]; rw [← ih]
 | o x => rfl
 | i ns =>
  simp only [Blk.fp,Blk.flat]
  induction ns with
  | nil => rfl
  | cons c r ih => simp only [List.map_cons,fpL,AV.fp]; rw [← ih]
 | g s xs =>
  simp only [Blk.fp,Blk.flat]
  induction xs with
  | nil => rfl
  | cons c r ih => simp only [fpL,List.flatMap_cons,ztk]; rw [ih,zxu]
theorem ytm {id : Nat} {c0 : Value} {b : Blk} (h : b.ok) : (b.fp id c0).ok := by
 cases b with
 | g s xs =>
  obtain ⟨h1,h2⟩ := h
  refine ⟨h1,fun x hx => ?_⟩
  obtain ⟨j,hj,rfl⟩ := List.getElem_of_mem hx
  obtain ⟨h3,h4⟩ := zfq id c0 xs
  rw [h4 j hj (by rw [← h3]; exact hj),zxu,(zfq id c0 _).1]
  exact h2 _ (List.getElem_mem _)
 | _ => trivial
theorem len_fp {id : Nat} {c0 : Value} {b : Blk} : (b.fp id c0).len = b.len := by
 cases b with
 | g s xs => exact (zfq id c0 xs).1
 | _ => rfl
theorem zvg {id : Nat} {c0 : Value} : ∀ {H : Heap} {k : Nat} {b : Blk},look (fpH id c0 H) k = some b → k ≠ id ∧ ∃ c,look H k = some c ∧ b = c.fp id c0
 | [],k,b,h => by simp [fpH,look] at h
 | p :: r,k,b,h => by
  have e : look (p :: r) k = if p.1 = k then some p.2 else look r k := zar r p.1 k p.2
  unfold fpH at h
  by_cases hp : p.1 = id
  ·have : (p.1 == id) = true := by simpa using hp
   rw [this] at h
   obtain ⟨h1,c,h2,h3⟩ := zvg h
   exact ⟨h1,c,by rw [e,if_neg (by omega)]; exact h2,h3⟩
  ·have : (p.1 == id) = false := by simpa using hp
   rw [this] at h
   have e2 : look ((p.1,p.2.fp id c0) :: fpH id c0 r) k = if p.1 = k then some (p.2.fp id c0) else look (fpH id c0 r) k := zar (fpH id c0 r) p.1 k _
   simp only [cond_false] at h
   rw [e2] at h
   split at h
   ·rename_i hk
    injection h with h
    exact ⟨by omega,p.2,by rw [e,if_pos hk],h.symm⟩
   ·rename_i hk
    obtain ⟨h1,c,h2,h3⟩ := zvg h
    exact ⟨h1,c,by rw [e,if_neg hk]; exact h2,h3⟩
theorem ydg {id : Nat} {c0 : Value} : ∀ (sl : List AV) (t : Nat),slot (fpL id c0 sl) t = (slot sl t).fp id c0
 | [],t => rfl
 | x :: xs,0 => rfl
 | x :: xs,t + 1 => ydg xs t
theorem rel_fp {w0 : World} {E : Nat → Prop} {B : Bs} {w : World} {loc : Loc} {a : Act} {sl : List AV} {H : Heap} {nx : Nat} (id : Nat) (c0 : Value) (hl : look H id = some (.g 1 [.w c0])) (hB : Base w0 B w loc) (hr : Rel' w0 E loc ⟨sl,H,nx⟩ a w) (hlive : loc.m id ≠ .free) : Rel w0 E B ⟨fpL id c0 sl,fpH id c0 H,nx⟩ a w := by
 have hblk := hr.heap id _ hl
 have hor : ∃ b,loc.m id = .here b ∧ b < w.heap.size ∧ Lies w loc (.g 1 [.w c0]) b ∧ (∀ k,loc.m k = .here b → k = id) ∧ ¬ loc.bad b := by
  unfold BlkR at hblk
  cases e : loc.m id with
  | free => exact (hlive e).elim
  | dead => rw [e] at hblk; exact hblk.elim
  | nil => rw [e] at hblk; exact absurd hblk.2 (by simp [Blk.len])
  | here b =>
   rw [e] at hblk
   have h1 := hr.env.lies id b e
   refine ⟨b,rfl,h1.1,hblk.2,fun k hk => hr.env.inj k id b hk e,fun hb => ?_⟩
   have h2 := hr.env.bad b hb
   rcases h1.2 with h3 | h3
   ·omega
   ·exact h2.2 h3
 have hset : ∀ {k c},(loc.set id .dead).m k = .here c → loc.m k = .here c := by
  intro k c h
  by_cases hk : k = id
  ·subst hk; rw [Loc.set_same] at h; cases h
  ·rwa [Loc.set_other _ _ hk] at h
 refine ⟨loc.set id .dead,⟨hB.1,hB.2.1,fun k hk => ?_⟩,⟨?_,fun t => ?_,?_,⟨hr.env.os,hr.env.tape,hr.env.output,hr.env.size,hr.env.same,fun i j b h1 h2 => hr.env.inj i j b (hset h1) (hset h2),fun i b h1 => hr.env.lies i b (hset h1),hr.env.bad⟩,?_,hr.defers,?_⟩⟩
 ·by_cases hne : k = id
  ·subst hne; left; rw [Loc.set_same]
  ·rw [Loc.set_other _ _ hne]; exact hB.2.2 k hk
 ·rw [hr.size]; exact ((zfq id c0 sl).1).symm
 ·simp only; rw [ydg]; exact fp_R hor (hr.slots t)
 ·intro k b hk
  obtain ⟨h1,c,h2,rfl⟩ := zvg hk
  have h3 := hr.heap k c h2
  unfold BlkR at h3 ⊢
  rw [Loc.set_other _ _ h1]
  split
  ·trivial
  ·rename_i e; rw [e] at h3; exact h3
  ·rename_i e; rw [e] at h3; exact ⟨ytm h3.1,by rw [len_fp]; exact h3.2⟩
  ·rename_i d e
   rw [e] at h3
   rcases zbd c with ⟨x,hx,rfl⟩ | hodd
   ·exact ⟨ytm h3.1,.mkO (Thing.move (loc := loc) (fun c _ hM => hM.imp (fun h => h) (fun ⟨k,h⟩ => ⟨k,hset h⟩)) (h3.2.is hx)) rfl⟩
   obtain ⟨cur,el,fi,g1,g2,g3,g4,g5⟩ := h3.2.lies hodd
   have hlen : (c.fp id c0).flat.length = c.flat.length := by rw [ymn,(zfq id c0 _).1]
   refine ⟨ytm h3.1,.mkC ⟨cur,el,fi,g1,by rw [yte]; exact g2,g3,by omega,fun j x y => ?_⟩ (odd_fp.trans hodd)⟩
   have h6 := g5 j (by omega) y
   have e : (c.fp id c0).flat[j] = (c.flat[j]'(by omega)).fp id c0 := by
    have := (zfq id c0 c.flat).2 j (by rw [(zfq id c0 _).1]; omega) (by omega)
    rw [← this]
    congr 1
    exact ymn id c0 c
   rw [e]
   exact ⟨ymc h6.1,fp_R hor h6.2⟩
 ·intro k hk
  by_cases hne : k = id
  ·exact (hlive (hne ▸ hr.fresh k hk)).elim
  ·rw [Loc.set_other _ _ hne]; exact hr.fresh k hk
 ·intro k b hk
  obtain ⟨h1,c,h2,rfl⟩ := zvg hk
  exact hr.low k c h2
theorem yjg {sl : List AV} {H : Heap} {nx : Nat} (id i : Nat) (c0 : Value) (hl : look H id = some (.g 1 [.w c0])) (hi : id ∈ (slot sl i).ids) : Weak ⟨sl,H,nx⟩ ⟨fpL id c0 sl,fpH id c0 H,nx⟩ := by
 rintro w0 E B a w ⟨loc,hB,hr⟩
 exact rel_fp id c0 hl hB hr (zdk _ _ (hr.slots i) hi)
end Ax
end Go.Proofs.Ytebacgkeoefnkaa
namespace Go.Proofs.Ytebacgkeoefnkaa
namespace Ax
theorem ypb {sl : List AV} {H : Heap} {nx : Nat} (id s i id0 : Nat) (zs : List AV) (b0 : Blk) (hl : look H id = some (.g s zs)) (hcl : closedL zs = true) (h0 : look H id0 = some b0) (hi0 : id0 ∈ (slot sl i).ids) (hin : id ∈ b0.idsB) : Weak ⟨sl,H,nx⟩ ⟨fgL id s zs sl,fgH id s zs H,nx⟩ := by
 rintro w0 E B a w ⟨loc,hB,hr⟩
 have h1 := zdk _ _ (hr.slots i) hi0
 have h2 : loc.m id ≠ .free := by
  obtain ⟨hok,⟨_,e⟩ | ⟨c,hc,hlies⟩⟩ := hr.heap.get h0 h1
  ·rw [yeh e] at hin; simp at hin
  ·exact zpu hlies id hin
 obtain ⟨h3,h4⟩ := ysg hB hr h2 (hr.heap id _ hl) hcl
 exact ⟨_,h3,h4⟩
end Ax
end Go.Proofs.Ytebacgkeoefnkaa
namespace Go.Proofs.Ytebacgkeoefnkaa
open Ax
def wiL (k : List UInt8) (l : List VR) : List VR := l.filter fun r => decide (¬ r.k = k)
def wiN (k : List UInt8) (l : List VR) : Nat := l.countP fun r => Op.bytesLess r.k k
def oneV (b : Int) (l : List VR) (r : Rec) : List VR :=
 if r.k = true then (if r.dd = true then wiL r.key l else (wiL r.key l).take (wiN r.key l) ++ rowR b r :: (wiL r.key l).drop (wiN r.key l)) else l
theorem yje (k : List UInt8) (l : List VR) : (wiL k l).length ≤ l.length := List.length_filter_le _ _
end Go.Proofs.Ytebacgkeoefnkaa
namespace Go.Proofs.Ytebacgkeoefnkaa
open Ax
instance : Inhabited VR := ⟨⟨[],[],0,0⟩⟩
def encV (r : VR) : List Value := [.string ⟨r.k.toArray⟩,.string ⟨r.v.toArray⟩,.int .i64 r.o,.int .i64 r.t]
def valO : AV → Value
 | .str bs => .string ⟨bs.toArray⟩
 | .w v => v
 | _ => .tuple #[]
def flV (l : List VR) : List AV := (l.map vrA).flatMap AV.leaves
theorem zvi (x : VR) (l : List VR) : flV (x :: l) = [.str x.k,.str x.v,.w (.int .i64 x.o),.w (.int .i64 x.t)] ++ flV l := rfl
theorem zld : ∀ l : List VR,(flV l).length = l.length * 4
 | [] => rfl
 | x :: l => by rw [zvi,List.length_append,zld l]; simp; omega
theorem zqk : ∀ l : List VR,(flV l).map valO = l.flatMap encV
 | [] => rfl
 | x :: l => by rw [zvi,List.map_append,zqk l,List.flatMap_cons]; rfl
theorem zov : ∀ l : List VR,∀ x ∈ flV l,(∃ bs,x = .str bs) ∨ ∃ v,x = .w v ∧ Ax.one v = true
 | [],x,h => by cases h
 | y :: l,x,h => by
  rw [zvi] at h
  rcases List.mem_append.1 h with h | h
  ·simp only [List.mem_cons,List.not_mem_nil,or_false] at h
   rcases h with rfl | rfl | rfl | rfl
   ·exact .inl ⟨_,rfl⟩
   ·exact .inl ⟨_,rfl⟩
   ·exact .inr ⟨_,rfl,rfl⟩
   ·exact .inr ⟨_,rfl,rfl⟩
  ·exact zov l x h
theorem zho (l : List VR) : (l.flatMap encV).length = l.length * 4 := by rw [← zqk,List.length_map,zld]
theorem yeu : ∀ (l : List VR) (t : Nat),t < l.length * 4 → (l.flatMap encV)[t]! = (encV l.toArray[t / 4]!)[t % 4]!
 | [],t,h => by simp at h
 | x :: l,t,h => by
  rw [List.flatMap_cons]
  by_cases h4 : t < 4
  ·have h0 : t / 4 = 0 := by omega
   have h1 : t % 4 = t := by omega
   rw [h0,h1,List.getElem!_eq_getElem?_getD,List.getElem?_append_left (by exact h4),← List.getElem!_eq_getElem?_getD]
   simp
  ·have ih := yeu l (t - 4) (by simp at h; omega)
   have h0 : t / 4 = (t - 4) / 4 + 1 := by omega
   have h1 : t % 4 = (t - 4) % 4 := by omega
   rw [List.getElem!_eq_getElem?_getD,List.getElem?_append_right (by show 4 ≤ t; omega),← List.getElem!_eq_getElem?_getD]
   have e : t - (encV x).length = t - 4 := rfl
   rw [e,ih,h0,h1]
   simp
theorem zyt (l : List VR) : Go.Sort.flatK encV 4 l.toArray = (l.flatMap encV).toArray := by
 refine Go.Sort.ext_get! (by rw [Go.Sort.size_flatK,List.size_toArray,List.size_toArray,zho]) fun t ht => ?_
 have ht' : t < l.length * 4 := by rw [Go.Sort.size_flatK] at ht; simpa using ht
 rw [Go.Sort.get_flatK _ _ _ t (by simpa using ht')]
 have := yeu l t ht'
 simp only [List.getElem!_toArray] at this ⊢
 exact this.symm
def srtV (l : List VR) : List VR := l.mergeSort fun x y => decide (x.k ≤ y.k)
theorem zbp (l : List VR) : (srtV l).length = l.length := List.length_mergeSort ..
def zic (l : List VR) : List (List UInt8) := l.map fun r => r.k
def zob (g : FuncId) : zas
 | [.ms 0 4 0 n,.fn id []],[.g 4 xs] => ⟨id = g ∧ n = xs.length ∧ n < 4611686018427387904 ∧ ∃ l : List VR,xs = l.map vrA ∧ (zic l).Nodup,.tup [],[.g 4 ((srtV (xs.map uvr)).map vrA)]⟩
 | [.sg s [] fl,.fn id []],[] => ⟨id = g,.tup [],[]⟩
 | _,_ => zcj
theorem ygs {P : Program} {f g : FuncId}
  (hC : ∀ (blk off cap : Nat) (l : List VR) (w : World),(zic l).Nodup → Go.Sort.Holds id w blk off (l.flatMap encV).toArray → blk < w.heap.size → l.length < 4611686018427387904 →
   Calls P f #[.slice (some ⟨blk,off,none⟩) l.length cap,.func (.func g) #[] #[]] w fun e w' =>
    e = .returned (.tuple #[]) ∧ ∃ n os,w' = Go.Sort.grow (Go.Sort.putRow id (Go.Sort.ahead w n) blk off ((srtV l).flatMap encV).toArray) os)
  (hN : ∀ (p : Option Addr) (cap : Nat) (v : Value) (w : World),Calls P f #[.slice p 0 cap,v] w fun e w' => e = .returned (.tuple #[]) ∧ w' = w) : zbg P f (zob g) := by
 intro xs pins hp hcl w bad pb vs hpb hnd hbad hpins hlen hxs
 unfold zob at hp ⊢
 split at hp
 ·rename_i n id0 ys
  obtain ⟨rfl,rfl,hn,l,rfl,hk⟩ := hp
  rw [zdi]
  obtain ⟨b,rfl⟩ : ∃ b,pb = [b] := by
   cases pb with
   | nil => simp at hpb
   | cons b r => cases r with
    | nil => exact ⟨b,rfl⟩
    | cons c r => simp at hpb
  obtain ⟨v,v1,rfl⟩ : ∃ v v1,vs = [v,v1] := by
   match vs,hlen with
   | [v,v1],_ => exact ⟨v,v1,rfl⟩
  have hv : R w (zav [b] bad) (.ms 0 4 0 (l.map vrA).length) v := hxs 0 (by simp) (by simp)
  have hv1 : R w (zav [b] bad) (.fn id0 []) v1 := hxs 1 (by simp) (by simp)
  obtain rfl : v1 = .func (.func id0) #[] #[] := by
   cases hv1 with
   | fn _ _ cs hl h =>
    obtain rfl : cs = [] := by cases cs with
     | nil => rfl
     | cons c r => simp at hl
    rfl
  have hm : (zav [b] bad).m 0 = .here b := rfl
  cases hv with
  | ms _ _ _ _ _ h =>
   unfold Owns at h
   rw [hm] at h
   simp only at h
   obtain ⟨o,cap,cur,e,fz,rfl,ho,hcur,hsz,hle,hcap⟩ := h
   have hL := (hpins 0 (by simp) (by simp)).2
   obtain ⟨cur',e',fz',hcur',hfz,hone,hfl,hcells⟩ := hL.lies rfl
   have hb0 : ([b] : List Nat)[0] = b := rfl
   rw [hb0,hcur] at hcur'
   injection hcur' with hcur'
   injection hcur' with h1 h2 h3
   subst h1 h2 h3
   have hflat : (Blk.g 4 (l.map vrA)).flat = flV l := rfl
   have hbs : b < w.heap.size := by
    rcases Nat.lt_or_ge b w.heap.size with h | h
    ·exact h
    ·rw [Array.getElem?_eq_none h] at hcur; cases hcur
   rw [List.length_map] at hle hn
   have hlenc : l.length * 4 ≤ cur.size := by
    have := hfl
    rw [show ([Blk.g 4 (l.map vrA)] : List Blk)[0] = Blk.g 4 (l.map vrA) from rfl,hflat,zld] at this
    exact this
   have ho0 : 0 < l.length → o = 0 := fun h => by have := ho (by omega); omega
   have hcj : ∀ j (hj : j < l.length * 4),cur[j]'(by omega) = (l.flatMap encV)[j]'(by rw [zho]; exact hj) := by
    intro j hj
    have hjf : j < (flV l).length := by rw [zld]; exact hj
    have hx : R w (zav [b] bad) (flV l)[j] (cur[j]'(by omega)) := (hcells j (by show j < (Blk.g 4 (l.map vrA)).flat.length; rw [hflat]; exact hjf) (by omega)).2
    have e1 : (l.flatMap encV)[j]'(by rw [zho]; exact hj) = valO (flV l)[j] := by
     simp only [← zqk,List.getElem_map]
    rw [e1]
    generalize cur[j]'(by omega) = u at hx
    rcases zov l _ (List.getElem_mem hjf) with ⟨bs,hbs⟩ | ⟨z,hz,_⟩
    ·rw [hbs] at hx ⊢
     cases hx with
     | str _ => rfl
    ·rw [hz] at hx ⊢
     exact hx.wv
   have hH : Go.Sort.Holds id w b o (l.flatMap encV).toArray := by
    intro j hj
    have hj : j < l.length * 4 := by rw [List.size_toArray,zho] at hj; exact hj
    have h0 := ho0 (by omega)
    subst h0
    have hjc : j < cur.size := by omega
    refine ⟨?_,?_⟩
    ·simp only [World.cell?,hcur,Nat.zero_add,Array.getElem?_eq_getElem hjc]
     rw [hcj j hj]
     have hq : j < (l.flatMap encV).length := by rw [zho]; exact hj
     simp only [id,List.getElem!_toArray,List.getElem!_eq_getElem?_getD,List.getElem?_eq_getElem hq,Option.getD_some]
     rfl
    ·have := znu hfz j hjc
     simp only [World.frozen?,hcur,Nat.zero_add]
     simpa using this
   have hc := hC b o cap l w hk hH hbs hn
   rw [List.length_map]
   refine Calls.mono hc ?_
   rintro e1 w' ⟨rfl,k,os,rfl⟩
   refine ⟨_,zav [b] bad,rfl,?_⟩
   have hhp : (Go.Sort.grow (Go.Sort.putRow id (Go.Sort.ahead w k) b o ((srtV l).flatMap encV).toArray) os).heap[b]? = some (.cells (Go.Sort.putCells id o ((srtV l).flatMap encV).toArray cur) e fz) := by
    rw [Go.Sort.heap_grow_old _ _ (by simp [Go.Sort.putRow,Go.Sort.mapBlock,Go.Sort.ahead]; exact hbs)]
    simp [Go.Sort.putRow,Go.Sort.mapBlock,Go.Sort.ahead,Array.getElem?_modify,hcur,Go.Sort.onCells]
   obtain ⟨D,hD⟩ : ∃ D,((srtV l).flatMap encV).toArray = D := ⟨_,rfl⟩
   have hDs : D.size = l.length * 4 := by rw [← hD,List.size_toArray,zho,zbp]
   rw [hD] at hhp ⊢
   obtain ⟨cu,hcu⟩ : ∃ cu,Go.Sort.putCells id o D cur = cu := ⟨_,rfl⟩
   have hcs : cu.size = cur.size := by rw [← hcu]; simp [Go.Sort.putCells]
   have hget : ∀ (j : Nat) (hj : j < cu.size),cu[j] = if o ≤ j ∧ j < o + D.size then id D[j - o]! else cur[j]'(by omega) := by
    intro j hj
    subst hcu
    simp [Go.Sort.putCells]
   rw [hcu] at hhp
   have hflat2 : (Blk.g 4 ((srtV l).map vrA)).flat = flV (srtV l) := rfl
   have hDone : ∀ j,j < D.size → Ax.one D[j]! = true := by
    intro j hj
    have hj2 : j < (flV (srtV l)).length := by rw [zld,zbp]; omega
    have e1 : D[j]! = valO (flV (srtV l))[j] := by
     subst hD
     have hj3 : j < ((srtV l).flatMap encV).length := by simpa using hj
     simp only [List.getElem!_toArray,List.getElem!_eq_getElem?_getD,List.getElem?_eq_getElem hj3,Option.getD_some]
     simp only [← zqk,List.getElem_map]
    rw [e1]
    rcases zov (srtV l) _ (List.getElem_mem hj2) with ⟨bs,hbs⟩ | ⟨z,hz,h1⟩
    ·rw [hbs]; rfl
    ·rw [hz]; exact h1
   refine ⟨R.tup [] [] rfl (by simp),rfl,?_,?_,?_,?_,?_,?_⟩
   ·intro k' hk'
    have hk0 : k' = 0 := by simp at hk'; omega
    subst hk0
    refine ⟨?_,by rw [hm]; simp,by rw [hm]; simp⟩
    unfold BlkR
    rw [hm]
    refine ⟨⟨by decide,?_⟩,Lies.mkC ⟨cu,e,fz,hhp,by rw [hcs]; exact hfz,?_,?_,?_⟩⟩
    ·intro x hx
     obtain ⟨y,_,rfl⟩ := List.mem_map.1 hx
     rfl
    ·intro j hj
     rw [hget j hj]
     split
     ·exact hDone _ (by omega)
     ·exact hone j (by omega)
    ·show (Blk.g 4 ((srtV l).map vrA)).flat.length ≤ cu.size
     rw [hflat2,zld,zbp,hcs]; exact hlenc
    ·intro j hj hj'
     have hjl : j < (flV (srtV l)).length := hj
     have hjs : j < l.length * 4 := by rw [zld,zbp] at hjl; exact hjl
     have h0 := ho0 (by omega)
     subst h0
     show (flV (srtV l))[j].leaf = true ∧ R _ _ (flV (srtV l))[j] cu[j]
     rw [hget j hj',if_pos ⟨Nat.zero_le _,by omega⟩]
     have e1 : id D[j - 0]! = valO (flV (srtV l))[j] := by
      subst hD
      have hj3 : j < ((srtV l).flatMap encV).length := by rw [zho,zbp]; exact hjs
      simp only [Nat.sub_zero,id,List.getElem!_toArray,List.getElem!_eq_getElem?_getD,List.getElem?_eq_getElem hj3,Option.getD_some]
      simp only [← zqk,List.getElem_map]
     rw [e1]
     rcases zov (srtV l) _ (List.getElem_mem hjl) with ⟨bs,hbs⟩ | ⟨z,hz,h1⟩
     ·rw [hbs]; exact ⟨rfl,R.str _⟩
     ·rw [hz]; exact ⟨h1,R.w _ h1⟩
   ·intro k' hk'
    have hk0 : k' = 0 := by simp at hk'; omega
    subst hk0; rfl
   ·intro k' b' h1 h2
    have h1 : 1 ≤ k' := h1
    have h3 : (zav [b] bad).m k' = .free := by
     show (match ([b] : List Nat)[k']? with | some b => L.here b | none => L.free) = _
     rw [List.getElem?_eq_none (by simpa using h1)]
    rw [h3] at h2; cases h2
   ·intro k' h1
    have h1 : 1 ≤ k' := h1
    show (match ([b] : List Nat)[k']? with | some b => L.here b | none => L.free) = _
    rw [List.getElem?_eq_none (by simpa using h1)]
   ·intro i j b' h1 h2
    obtain ⟨g1,_⟩ := zby h1
    obtain ⟨g2,_⟩ := zby h2
    simp at g1 g2
    omega
   ·refine ⟨rfl,rfl,rfl,?_,?_,?_⟩
    ·simp [Go.Sort.grow,Go.Sort.putRow,Go.Sort.mapBlock,Go.Sort.ahead]
    ·intro b' hb' hne
     have hne : b' ≠ b := by simpa using hne
     rw [Go.Sort.heap_grow_old _ _ (by simp [Go.Sort.putRow,Go.Sort.mapBlock,Go.Sort.ahead]; exact hb')]
     simp [Go.Sort.putRow,Go.Sort.mapBlock,Go.Sort.ahead,Array.getElem?_modify]
     intro h; exact (hne h.symm).elim
    ·intro b' c' e' f' hE hc'
     have hE : b' = b := by simpa using hE
     subst hE
     rw [hcur] at hc'
     injection hc' with hc'
     injection hc' with h1 h2 h3
     subst h1 h2 h3
     exact ⟨cu,fz,hhp,hcs⟩
 ·rename_i s fl id0
  obtain rfl := hp
  obtain rfl : pb = [] := by cases pb with
   | nil => rfl
   | cons b r => simp at hpb
  obtain ⟨v,v1,rfl⟩ : ∃ v v1,vs = [v,v1] := by
   match vs,hlen with
   | [v,v1],_ => exact ⟨v,v1,rfl⟩
  have hv : R w (zav [] bad) (.sg s [] fl) v := hxs 0 (by simp) (by simp)
  cases hv with
  | sg _ _ _ a cap cs hd hs hc hl hx h =>
   refine Calls.mono (hN a cap v1 w) ?_
   rintro e1 w' ⟨rfl,rfl⟩
   refine ⟨_,zav [] bad,rfl,?_⟩
   have hf : ∀ k,(zav [] bad).m k = .free := fun k => by
    show (match ([] : List Nat)[k]? with | some b => L.here b | none => L.free) = _
    rw [List.getElem?_eq_none (by simp)]
   refine ⟨R.tup [] [] rfl (by simp),rfl,?_,?_,?_,fun k _ => hf k,?_,?_⟩
   ·intro k hk; simp at hk
   ·intro k hk; simp at hk
   ·intro k b' _ h2; rw [hf k] at h2; cases h2
   ·intro i j b' h1 _; rw [hf i] at h1; cases h1
   ·exact ⟨rfl,rfl,rfl,Nat.le_refl _,fun _ _ _ => rfl,fun b' c' e' f' hE _ => by simp at hE⟩
 ·exact hp.elim
end Go.Proofs.Ytebacgkeoefnkaa
namespace Go.Proofs.Ytebacgkeoefnkaa
open Go.Shelf
open Ax
def sortFR : Go.Shelf.Ren := ⟨fun | 6 => 31 | 15 => 62 | 14 => 61 | 28 => 87 | 29 => 88 | 20 => 79 | 21 => 80 | 22 => 81 | 23 => 82 | 24 => 83 | 25 => 84 | 26 => 85 | 27 => 86 | 46 => 97 | 47 => 98 | 48 => 99 | 49 => 100 | 50 => 101 | 57 => 106 | n => n,fun | 22 => 33 | 24 => 52 | 25 => 74 | 3 => 3 | 39 => 100 | 0 => 0 | 53 => 125 | 55 => 108 | 4 => 4 | 46 => 119 | 45 => 118 | 50 => 82 | 5 => 5 | 9 => 9 | 66 => 135 | 70 => 139 | 76 => 142 | 77 => 143 | n => n,fun | n => n⟩
theorem ysc : Go.Proofs.SlLaysF0.n6 Try.prog sortFR := {
 mixed := by kernel_rfl
 f6 := ⟨Try.f31.name,by decide,Try.func31.trans (congrArg some (by kernel_rfl))⟩
 f14 := ⟨Try.f61.name,by decide,Try.func61.trans (congrArg some (by kernel_rfl))⟩
 f15 := Try.func62.trans (congrArg some (by kernel_rfl))
 f20 := ⟨Try.f79.name,by decide,Try.func79.trans (congrArg some (by kernel_rfl))⟩
 f21 := ⟨Try.f80.name,by decide,Try.func80.trans (congrArg some (by kernel_rfl))⟩
 f22 := ⟨Try.f81.name,by decide,Try.func81.trans (congrArg some (by kernel_rfl))⟩
 f23 := ⟨Try.f82.name,by decide,Try.func82.trans (congrArg some (by kernel_rfl))⟩
 f24 := ⟨Try.f83.name,by decide,Try.func83.trans (congrArg some (by kernel_rfl))⟩
 f25 := ⟨Try.f84.name,by decide,Try.func84.trans (congrArg some (by kernel_rfl))⟩
 f26 := ⟨Try.f85.name,by decide,Try.func85.trans (congrArg some (by kernel_rfl))⟩
 f27 := ⟨Try.f86.name,by decide,Try.func86.trans (congrArg some (by kernel_rfl))⟩
 f28 := Try.func87.trans (congrArg some (by kernel_rfl))
 f29 := Try.func88.trans (congrArg some (by kernel_rfl))
 f46 := ⟨Try.f97.name,by decide,Try.func97.trans (congrArg some (by kernel_rfl))⟩
 f47 := Try.func98.trans (congrArg some (by kernel_rfl))
 f48 := Try.func99.trans (congrArg some (by kernel_rfl))
 f49 := ⟨Try.f100.name,by decide,Try.func100.trans (congrArg some (by kernel_rfl))⟩
 f50 := ⟨Try.f101.name,by decide,Try.func101.trans (congrArg some (by kernel_rfl))⟩
 f57 := ⟨Try.f106.name,by decide,Try.func106.trans (congrArg some (by kernel_rfl))⟩
 t0 := Try.underlying0
 a0 := Try.isAgg0
 z0 := Try.sizeOf0
 v0 := Try.zeroValue0
 t3 := Try.underlying3
 a3 := Try.isAgg3
 z3 := Try.sizeOf3
 v3 := Try.zeroValue3
 t4 := Try.underlying4
 a4 := Try.isAgg4
 z4 := Try.sizeOf4
 v4 := Try.zeroValue4
 t5 := Try.underlying5
 a5 := Try.isAgg5
 z5 := Try.sizeOf5
 v5 := Try.zeroValue5
 t9 := Try.underlying9
 a9 := Try.isAgg9
 z9 := Try.sizeOf9
 v9 := Try.zeroValue9
 t22 := Try.underlying33
 a22 := Try.isAgg33
 z22 := Try.sizeOf33
 v22 := Try.zeroValue33
 t25 := Try.underlying74
 a25 := Try.isAgg74
 z25 := Try.sizeOf74
 v25 := Try.zeroValue74
 t39 := Try.underlying100
 a39 := Try.isAgg100
 z39 := Try.sizeOf100
 v39 := Try.zeroValue100
 t45 := Try.underlying118
 a45 := Try.isAgg118
 z45 := Try.sizeOf118
 v45 := Try.zeroValue118
 t46 := Try.underlying119
 a46 := Try.isAgg119
 z46 := Try.sizeOf119
 v46 := Try.zeroValue119
 t50 := Try.underlying82
 a50 := Try.isAgg82
 z50 := Try.sizeOf82
 v50 := Try.zeroValue82
 t53 := Try.underlying125
 a53 := Try.isAgg125
 z53 := Try.sizeOf125
 v53 := Try.zeroValue125
 t55 := Try.underlying108
 a55 := Try.isAgg108
 z55 := Try.sizeOf108
 v55 := Try.zeroValue108
 t66 := Try.underlying135
 a66 := Try.isAgg135
 z66 := Try.sizeOf135
 v66 := Try.zeroValue135
 t70 := Try.underlying139
 a70 := Try.isAgg139
 z70 := Try.sizeOf139
 v70 := Try.zeroValue139
 t76 := Try.underlying142
 a76 := Try.isAgg142
 z76 := Try.sizeOf142
 v76 := Try.zeroValue142
 t77 := Try.underlying143
 a77 := Try.isAgg143
 z77 := Try.sizeOf143
 v77 := Try.zeroValue143 }
open Go.RowKit Go.Lib Go.Sort
def cK (a b : List UInt8) : Int := if a < b then -1 else if b < a then 1 else 0
def cR (x y : VR) : Int := cK x.k y.k
set_option maxHeartbeats 4000000 in
theorem ykr (x : List UInt8) (W : World) : Calls Try.prog 89 #[.string ⟨x.toArray⟩] W fun e w' => e = .returned (.bool false) ∧ w' = W := by
 go_enter Try.func89,Try.ntmps89
 go_wp2
 go_ret
 exact ⟨by simp,rfl⟩
set_option maxHeartbeats 4000000 in
theorem yni (x y : List UInt8) (W : World) : Calls Try.prog 63 #[.string ⟨x.toArray⟩,.string ⟨y.toArray⟩] W fun e w' => e = .returned (.int .i64 (cK x y)) ∧ w' = W := by
 have hcon := fun x W' => ykr x W'
 go_enter Try.func63,Try.ntmps63
 go_wp2_with (go_at_call 89; refine (hcon _ _).mono ?_; rintro e w' ⟨rfl,rfl⟩)
 all_goals (go_ret; refine ⟨?_,rfl⟩; unfold cK; (repeat' split) <;> first | rfl | (exfalso; simp_all [bytesLess_eq]; done) | (exfalso; simp_all [bytesLess_eq]; first | exact List.lt_irrefl _ ‹_› | (rename_i hne hle1 hle2; exact hne (List.le_antisymm (List.not_lt.1 hle2) (List.not_lt.1 hle1))) | trace_state))
set_option maxHeartbeats 4000000 in
theorem ycn (x y : VR) (W : World) : Calls Try.prog 32 #[.agg (encV x).toArray,.agg (encV y).toArray] W fun e w' => e = .returned (.int .i64 (cR x y)) ∧ ∃ q os',w' = grow (W.drewN q) os' := by
 have hcon := fun W' => yni x.k y.k W'
 unfold cR
 generalize cK x.k y.k = r at hcon ⊢
 obtain ⟨k1,v1,o1,t1⟩ := x
 obtain ⟨k2,v2,o2,t2⟩ := y
 simp only [encV] at hcon ⊢
 go_enter Try.func32,Try.ntmps32
 go_wp2_with (go_at_call 63; refine (hcon _).mono ?_; rintro e w' ⟨rfl,rfl⟩)
 go_ret
 exact ⟨rfl,0,_,by rw [alloc_eq_grow,alloc_eq_grow,grow_grow]; rfl⟩
theorem yfo (a b : List UInt8) : cK a b < 0 ↔ a < b := by
 unfold cK
 by_cases h : a < b
 ·simp [h]
 ·rw [if_neg h]
  split <;> simp [h]
theorem swoR : SWO (ltOf cR) where
 irrefl x := by unfold ltOf cR; rw [decide_eq_false_iff_not,yfo]; exact List.lt_irrefl _
 trans x y z h1 h2 := by
  unfold ltOf cR at *
  rw [decide_eq_true_eq,yfo] at *
  exact List.lt_trans h1 h2
 ntrans x y z h1 h2 := by
  unfold ltOf cR at *
  rw [decide_eq_false_iff_not,yfo] at *
  exact List.not_lt.2 (List.le_trans (List.not_lt.1 h2) (List.not_lt.1 h1))
theorem zpd {l l2 : List VR} (hn : (zic l).Nodup) (hp : l2.Perm l) (hs : l2.Pairwise fun x y => ¬ y.k < x.k) : l2 = srtV l := by
 have htr : ∀ x y z : VR,decide (x.k ≤ y.k) = true → decide (y.k ≤ z.k) = true → decide (x.k ≤ z.k) = true := fun x y z h1 h2 => decide_eq_true (List.le_trans (of_decide_eq_true h1) (of_decide_eq_true h2))
 have hto : ∀ x y : VR,(decide (x.k ≤ y.k) || decide (y.k ≤ x.k)) = true := fun x y => by
  rcases List.le_total x.k y.k with h | h <;> simp [h]
 have hinj : ∀ (m : List VR),(zic m).Nodup → ∀ x ∈ m,∀ y ∈ m,x.k = y.k → x = y := by
  intro m
  induction m with
  | nil => intro _ x hx; cases hx
  | cons p m ih =>
   intro h x hx y hy e
   have h2 := List.nodup_cons.1 (show (p.k :: zic m).Nodup from h)
   rcases List.mem_cons.1 hx with hx1 | hx1
   ·rcases List.mem_cons.1 hy with hy1 | hy1
    ·rw [hx1,hy1]
    ·exact (h2.1 (List.mem_map.2 ⟨y,hy1,by rw [← e,hx1]⟩)).elim
   ·rcases List.mem_cons.1 hy with hy1 | hy1
    ·exact (h2.1 (List.mem_map.2 ⟨x,hx1,by rw [e,hy1]⟩)).elim
    ·exact ih h2.2 x hx1 y hy1 e
 unfold srtV
 refine List.Perm.eq_of_pairwise (le := fun x y => decide (x.k ≤ y.k) = true) (fun x y h1 h2 h3 h4 => ?_) (hs.imp fun {x y} h => decide_eq_true (List.not_lt.1 h)) (List.pairwise_mergeSort htr hto l) (hp.trans (List.mergeSort_perm l _).symm)
 exact hinj l hn x (hp.mem_iff.1 h1) y ((List.mergeSort_perm l _).mem_iff.1 h2) (List.le_antisymm (of_decide_eq_true h3) (of_decide_eq_true h4))
theorem yar (blk off cap : Nat) (l : List VR) (w : World) (hk : (zic l).Nodup) (hH : Go.Sort.Holds id w blk off (l.flatMap encV).toArray) (hb : blk < w.heap.size) (hs : l.length < 4611686018427387904) :
  Calls Try.prog 31 #[.slice (some ⟨blk,off,none⟩) l.length cap,.func (.func 32) #[] #[]] w fun e w' =>
   e = .returned (.tuple #[]) ∧ ∃ n os,w' = Go.Sort.grow (Go.Sort.putRow id (Go.Sort.ahead w n) blk off ((srtV l).flatMap encV).toArray) os := by
 have eg : ∀ args w,(callFunc 32 args).run Try.prog w = .ok (.enter 32 args) w := enters_of Try.func32 (by kernel_rfl) rfl
 have hH' : HoldsK encV 4 w blk off l.toArray := by unfold HoldsK; rw [zyt]; exact hH
 have hcon := AnyQ.slices_SortFunc ysc 4 Try.isAgg52 Try.sizeOf52 encV (fun _ => rfl) (fun x v hv => by simp [encV] at hv; rcases hv with rfl | rfl | rfl | rfl <;> rfl) cR swoR 32 #[] blk off cap l.toArray w eg (fun _ _ _ _ x y => ycn x y _) hH' hb hs
 refine Calls.mono hcon ?_
 rintro e w' ⟨rfl,d',n,os,hp,hso,rfl⟩
 refine ⟨rfl,n,os,?_⟩
 have hsz : d'.size = l.length := by have := hp.1; simpa using this
 have hpm : d'.toList.Perm l := by
  have := hp.2.2
  rw [show (d'.extract 0 l.toArray.size) = d' from by rw [List.size_toArray,← hsz,Array.extract_size],Array.extract_size] at this
  simpa using this
 have hpw : d'.toList.Pairwise fun x y => ¬ y.k < x.k := by
  rw [List.pairwise_iff_getElem]
  intro i j hi hj hij
  have h := hso i j (Nat.zero_le _) hij (by rw [List.size_toArray,← hsz]; simpa using hj)
  have hi2 : i < d'.size := by simpa using hi
  have hj2 : j < d'.size := by simpa using hj
  rw [getElem!_pos d' i hi2,getElem!_pos d' j hj2] at h
  unfold ltOf cR at h
  rw [decide_eq_false_iff_not,yfo] at h
  simpa using h
 have e := zpd hk hpm hpw
 unfold sortWorldK putRowK
 rw [show d' = (srtV l).toArray from by rw [← e],zyt]
theorem yaq : zbg Try.prog 31 (zob 32) :=
 ygs yar fun p cap v w => AnyF.slices_SortFunc_none ysc p cap v w
end Go.Proofs.Ytebacgkeoefnkaa
namespace Go.Proofs.Ytebacgkeoefnkaa
open Ax
theorem zwq : zol Try.prog 31 (zob 32) := by
 intro xs pins hp w bad pb vs h1 h2 h3 h4 h5 h6
 have hc : closedB pins = true := by
  unfold zob at hp
  split at hp
  ·obtain ⟨_,_,_,l,rfl,_⟩ := hp
   simp only [closedB,Blk.closed,zdm,Bool.and_self]
  ·rfl
  ·exact hp.elim
 refine (yaq xs pins hp hc w bad pb vs h1 h2 h3 h4 h5 h6).mono ?_
 rintro e w' ⟨v,loc',he,hg⟩
 exact ⟨v,loc',he,hg.r,hg.bad,fun k hk => .inr (hg.bl k hk),fun k hk => .inl (hg.old k hk),fun k b hk hb => ⟨.inl (hg.new k b hk hb).1,(hg.new k b hk hb).2⟩,hg.none,hg.inj,hg.fram⟩
def cnt (rs : List Rec) (k : List UInt8) : Int := (gtK (rs.foldl spK []) k).getD 0
theorem zzc (rs : List Rec) (k : List UInt8) : cnt rs k = (rs.countP (zib k) : Nat) := by
 have h := zpe k rs []
 have h0 : (gtK ([] : KM) k).getD 0 = 0 := rfl
 rw [h0] at h
 unfold cnt; omega
def kpV (l : List VR) (rs : List Rec) : List VR := l.filter fun r => decide (cnt rs r.k = 0)
def mdV (b : Int) (rs : List Rec) : List VR := rs.foldl (mdK b) []
def allV (l : List VR) (b : Int) (rs : List Rec) : List VR := kpV l rs ++ mdV b rs
def apE (n : Int) (l : List VR) (x : Bat) : Int := if chV n l = 0 then (if bE x = 0 then (if x.b < n then 16 else if 4096 < (allV l x.b x.rs).length then 9 else 0) else bE x) else chV n l
def nxI (b c : Int) : Int := (b + c + 9223372036854775808) % 18446744073709551616 - 9223372036854775808
def vwA (n : Int) (l : List VR) (f : Bool) (e : Int) : AV := .tup [.agg [.w (.int .i64 n),.sg 4 (l.map vrA) f],.w (.int .i64 e)]
def apA (n : Int) (l : List VR) (x : Bat) : AV := if apE n l x = 0 then vwA (nxI x.b x.c) (srtV (allV l x.b x.rs)) false 0 else vwA 0 [] true (apE n l x)
def ygh : zas
 | [.agg [.w (.int .i64 n),.sg 4 xs f],.agg [.w (.int .i64 b),.w (.int .i64 c),.w (.int .i64 p),.w (.int .i64 e),.w (.int .i64 s),.sg 6 ys g]],[] =>
   ⟨xs.length ≤ 1000000 ∧ ys.length ≤ 1000000 ∧ (∃ l : List VR,xs = l.map vrA) ∧ ∃ rs : List Rec,ys = rs.map rv,apA n (xs.map uvr) ⟨b,c,p,e,s,ys.map rrec⟩,[]⟩
 | _,_ => zcj
def zfy (f : FuncId) : Option zas :=
 match f with
 | 16 => some ych
 | 29 => some zke
 | 33 => some ztu
 | 30 => some chgS
 | _ => none
theorem yrx : Fns Try.prog zfy := by
 intro f s h
 unfold zfy at h
 split at h
 ·injection h with h; subst h; exact ⟨⟨_,Try.func16,by kernel_rfl,by kernel_rfl⟩,yim⟩
 ·injection h with h; subst h; exact ⟨⟨_,Try.func29,by kernel_rfl,by kernel_rfl⟩,zrl⟩
 ·injection h with h; subst h; exact ⟨⟨_,Try.func33,by kernel_rfl,by kernel_rfl⟩,zrj⟩
 ·injection h with h; subst h; exact ⟨⟨_,Try.func30,by kernel_rfl,by kernel_rfl⟩,ynk⟩
 ·cases h
def zji (f : FuncId) : Option zas :=
 match f with
 | 31 => some (zob 32)
 | _ => none
theorem yrz : FnsO Try.prog zji := by
 intro f s h
 unfold zji at h
 split at h
 ·injection h with h; subst h; exact ⟨⟨_,Try.func31,by kernel_rfl,by kernel_rfl⟩,zwq⟩
 ·cases h
def zcu : zlp := fun id => match id with
 | 18 => .tst [true,false]
 | 23 => .opn [] 1
 | _ => .std
theorem yjv : ∀ (l : List VR),risV l = true → l.Pairwise fun x y => x.k < y.k
 | [],_ => List.Pairwise.nil
 | [_],_ => List.pairwise_singleton _ _
 | a :: c :: l,h => by
  have h' : Op.bytesLess a.k c.k = true ∧ risV (c :: l) = true := by simpa [risV] using h
  have ih := yjv (c :: l) h'.2
  have hac : a.k < c.k := by have := h'.1; rw [bytesLess_eq] at this; exact of_decide_eq_true this
  refine List.pairwise_cons.2 ⟨fun x hx => ?_,ih⟩
  rcases List.mem_cons.1 hx with rfl | hx
  ·exact hac
  ·exact List.lt_trans hac ((List.pairwise_cons.1 ih).1 x hx)
theorem yka {l : List VR} (h : l.Pairwise fun x y => x.k < y.k) : (zic l).Nodup := by
 unfold zic
 rw [List.nodup_iff_pairwise_ne]
 exact (List.pairwise_map.2 (h.imp fun {x y} hxy e => by rw [e] at hxy; exact List.lt_irrefl _ hxy))
theorem ybd (b : Int) : ∀ (rs : List Rec) (m : List VR),zuw m → zuw (rs.foldl (mdK b) m) ∧ ∀ x ∈ rs.foldl (mdK b) m,x ∈ m ∨ 0 < rs.countP (zib x.k)
 | [],m,h => ⟨h,fun x hx => .inl hx⟩
 | r :: rs,m,h => by
  rw [List.foldl_cons]
  have h2 : zuw (mdK b m r) ∧ ∀ x ∈ mdK b m r,x ∈ m ∨ zib x.k r = true := by
   unfold mdK
   by_cases hk : r.k = true
   ·rw [if_pos hk]
    by_cases hd : r.dd = true
    ·rw [if_pos hd]
     exact ⟨(zvq m r.key h).1,fun x hx => .inl (((zvq m r.key h).2 x).1 hx).1⟩
    ·rw [if_neg hd]
     refine ⟨(zuu m (rowR b r) h).1,fun x hx => ?_⟩
     rcases ((zuu m (rowR b r) h).2 x).1 hx with h3 | rfl
     ·exact .inl h3.1
     ·exact .inr (by unfold zib rowR; simp [hk])
   ·rw [if_neg hk]; exact ⟨h,fun x hx => .inl hx⟩
  obtain ⟨i1,i2⟩ := ybd b rs (mdK b m r) h2.1
  refine ⟨i1,fun x hx => ?_⟩
  rw [List.countP_cons]
  rcases i2 x hx with h3 | h3
  ·rcases h2.2 x h3 with h4 | h4
   ·exact .inl h4
   ·exact .inr (by rw [if_pos h4]; omega)
  ·exact .inr (by omega)
theorem ydv {n : Int} {l : List VR} {b : Int} {rs : List Rec} (h : chV n l = 0) : (zic (allV l b rs)).Nodup := by
 have hr : risV l = true := by
  unfold chV at h
  split at h
  ·cases h
  ·split at h
   ·split at h
    ·assumption
    ·cases h
   ·contradiction
 have h1 : (zic (kpV l rs)).Nodup := (yka (yjv l hr)).sublist (List.filter_sublist.map _)
 obtain ⟨h2,h3⟩ := ybd b rs [] List.nodup_nil
 unfold allV zic
 rw [List.map_append,List.nodup_append]
 refine ⟨h1,h2,fun a ha c hc e => ?_⟩
 subst e
 obtain ⟨x,hx,rfl⟩ := List.mem_map.1 ha
 obtain ⟨y,hy,hyx⟩ := List.mem_map.1 hc
 have h4 := of_decide_eq_true (List.mem_filter.1 hx).2
 rw [zzc] at h4
 rcases h3 y hy with h5 | h5
 ·cases h5
 ·rw [hyx] at h5; omega
theorem yts (b : Int) (m : List VR) (r : Rec) : (mdK b m r).length ≤ m.length + 1 := by
 unfold mdK ctR ptR
 split
 ·split
  ·split
   ·have := List.length_eraseIdx_le m ‹Nat × VR›.1; omega
   ·omega
  ·split
   ·rw [List.length_set]; omega
   ·rw [List.length_append]; simp
 ·omega
theorem yku (b : Int) : ∀ (rs : List Rec) (m : List VR),(rs.foldl (mdK b) m).length ≤ m.length + rs.length
 | [],m => by simp
 | r :: rs,m => by
  rw [List.foldl_cons]
  have h1 := yku b rs (mdK b m r)
  have h2 := yts b m r
  rw [List.length_cons]; omega
theorem ygk (l : List VR) (b : Int) (rs : List Rec) : (allV l b rs).length ≤ l.length + rs.length := by
 unfold allV kpV mdV
 rw [List.length_append]
 have h1 := List.length_filter_le (fun r : VR => decide (cnt rs r.k = 0)) l
 have h2 := yku b rs []
 rw [List.length_nil] at h2
 omega
theorem ykj {a b : List VR} (h : a.Perm b) (hb : (zic b).Nodup) : (zic a).Nodup := (h.map _).nodup_iff.2 hb
theorem yjm {a b : List VR} (h : a.Perm b) (hb : (zic b).Nodup) : srtV a = srtV b := by
 refine zpd hb ((List.mergeSort_perm _ _).trans h) ?_
 refine (List.pairwise_mergeSort (le := fun x y : VR => decide (x.k ≤ y.k)) (fun x y z h1 h2 => decide_eq_true (List.le_trans (of_decide_eq_true h1) (of_decide_eq_true h2))) (fun x y => by rcases List.le_total x.k y.k with h | h <;> simp [h]) a).imp fun {x y} hxy => List.not_lt.2 (of_decide_eq_true hxy)
theorem kvM_len (m : List VR) : (kvM m).length = m.length := by simp [kvM]
theorem kvM_get (m : List VR) (j : Nat) (h : j < (kvM m).length) (h' : j < m.length) : (kvM m)[j] = (.str m[j].k,vrA m[j]) := by
 simp only [kvM,List.getElem_map]; rfl
theorem ylb (m : List VR) (j : Nat) : (kvM m).eraseIdx j = kvM (m.eraseIdx j) := zvm kvR m j
theorem zqv : ∀ (l : List VR) (j : Nat) (h : j < l.length),l.Perm (l[j] :: l.eraseIdx j)
 | x :: r,0,h => List.Perm.refl _
 | x :: r,j + 1,h => by
  have h' : j < r.length := by simpa using h
  exact ((zqv r j h').cons x).trans (List.Perm.swap _ _ _)
section
set_option maxRecDepth 100000
set_option maxHeartbeats 16000000 in
theorem ycw : zbg Try.prog 10 ygh := by
 refine znv (S := zfy) (SO := zji) (T := ty) mixed ty_ok yrx yrz Try.func10 (c := Try.f10.body.getD .skip) (by kernel_rfl) (fun xs pins hp _ => ?_)
 unfold ygh at hp ⊢
 split at hp
 ·rename_i n xs f b c p e s ys g _
  obtain ⟨hL,hR,⟨l,rfl⟩,rs,rfl⟩ := hp
  rw [List.length_map] at hL hR
  have hlp : (l.map vrA).length = l.length := by simp
  have hlr : (rs.map rv).length = rs.length := by simp
  have hL9 : l.length ≤ 9223372036854775807 := by omega
  have hR9 : rs.length ≤ 9223372036854775807 := by omega
  have hxl : ∃ q : List VR,l.map vrA = q.map vrA := ⟨l,rfl⟩
  have hxr : ∃ q : List Rec,rs.map rv = q.map rv := ⟨rs,rfl⟩
  have ht : top = 4294967296 := rfl
  rw [zdi,zam]
  refine ⟨by simp,zcu,by kernel_rfl,?_⟩
  obtain ⟨E,hE⟩ : ∃ E,apE n l ⟨b,c,p,e,s,rs⟩ = E := ⟨_,rfl⟩
  unfold apA
  rw [hE]
  unfold apE at hE
  obtain ⟨C,hC⟩ : ∃ C,chV n l = C := ⟨_,rfl⟩
  obtain ⟨D,hD⟩ : ∃ D,batE b c p e s rs = D := ⟨_,rfl⟩
  have hD2 : bE ⟨b,c,p,e,s,rs⟩ = D := hD
  rw [hC,hD2] at hE
  unfold Try.f10
  by_cases h1 : C = 0
  ·have d1 : decide (C = 0) = true := decide_eq_true h1
   by_cases h2 : D = 0
   ·have d2 : decide (D = 0) = true := decide_eq_true h2
    by_cases h3 : b < n
    ·have d3 : decide (b < n) = true := decide_eq_true h3
     rw [if_pos h1,if_pos h2,if_pos h3] at hE
     subst hE
     simp only [go_sem,zac,↓reduceIte,lcT,ty,zfy,zji,zcu,ych,zke,hlp,hlr,hL9,hR9,hxl,hxr,zdi,zam,hC,hD,d1,d2,d3,vwA,List.map_nil]
     refine ⟨_,Weak.refl _,?_⟩
     simp only [go_sem,zac,↓reduceIte,lcT,ty,zfy,zji,zcu,List.map_nil]
    ·have d3 : decide (b < n) = false := decide_eq_false h3
     rw [if_pos h1,if_pos h2,if_neg h3] at hE
     simp only at hE
     have hna := ydv (b := b) (rs := rs) (hC.trans h1)
     obtain ⟨G,hG⟩ : ∃ G,rs.foldl (mdK b) [] = G := ⟨_,rfl⟩
     obtain ⟨M2,hM2⟩ : ∃ M2,rs.foldl spK [] = M2 := ⟨_,rfl⟩
     have hAG : allV l b rs = kpV l rs ++ G := by unfold allV mdV; rw [hG]
     have hcnt : ∀ k,(gtK M2 k).getD 0 = cnt rs k := fun k => by unfold cnt; rw [hM2]
     simp only [go_sem,zac,↓reduceIte,lcT,ty,zfy,zcu,ych,zke,chgS,hlp,hlr,hL9,hR9,hR,hxl,hxr,zdi,zam,hC,hD,d1,d2,d3,hG,hM2]
     refine zfd ⟨fun m σ => ∃ (i : Nat) (K : List VR),m = l.length - i ∧ i ≤ l.length ∧ K = kpV (l.take i) rs ∧
       σ = ⟨[.junk,.junk,.junk,.rf 4 6 0 0,.rf 5 2 0 0,.junk,.junk,.junk,.rf 6 0 0 0,.rf 7 0 0 0,.ms 8 4 0 K.length,.junk,.junk,.junk,.junk,.junk,.junk,.junk,.junk,.junk,.junk,.junk,.junk,.junk,.junk,.junk,.junk,.junk,.junk,.junk,.junk,.junk,.junk,.junk,.junk,.junk,.junk,.junk,.junk,.sg 4 (l.map vrA) f,.w (.int .i64 l.length),.w (.int .i64 i),.junk,.junk,.junk,.junk,.junk,.junk,.junk,.junk,.junk,.junk,.junk,.junk,.junk,.junk,.junk,.junk,.junk,.junk,.junk,.junk,.junk,.junk,.junk,.junk,.junk,.junk,.junk,.junk,.junk,.junk,.junk,.junk,.junk],
        [(4,.g 6 [.agg [.w (.int .i64 b),.w (.int .i64 c),.w (.int .i64 p),.w (.int .i64 e),.w (.int .i64 s),.sg 6 (rs.map rv) g]]),(5,.g 2 [.agg [.w (.int .i64 0),.sg 4 [] true]]),(6,.o (.mp (kvM G))),(7,.o (.mp (kvA M2))),(8,.g 4 (K.map vrA))],9⟩,?_,?_⟩
     ·refine ⟨_,_,(zlq 10 4 (.g 4 []) ⟨by decide,rfl⟩ (by exact trivial)).trans (zaf [0,1,2,3,12,20,164,165,252] rfl rfl rfl ?_ ?_),0,[],rfl,by omega,rfl,rfl⟩
      ·simp only [ssT,zai,zaj,setSlot,gOf,AV.ren,renL,Blk.ren,Ax.look,Ax.put,reduceCtorEq,↓reduceIte,Nat.reduceEqDiff,Nat.reduceLT,Nat.reduceAdd,List.length_append,List.length_cons,List.length_nil,Option.some.injEq]; try simp
      ·simp only [ssT,zai,zaj,setSlot,gOf,AV.ren,renL,Blk.ren,Ax.look,Ax.put,reduceCtorEq,↓reduceIte,Nat.reduceEqDiff,Nat.reduceLT,Nat.reduceAdd,List.length_append,List.length_cons,List.length_nil,Option.some.injEq]; try simp [renL]
     ·rintro m σ ⟨i,K,rfl,hi,hK,rfl⟩
      have e1 : ((i : Int) + 1 + 9223372036854775808) % 18446744073709551616 - 9223372036854775808 = ((i + 1 : Nat) : Int) := by omega
      have hKm : (K.map vrA).length = K.length := by simp
      have hKl : K.length ≤ i := by rw [hK]; exact Nat.le_trans (List.length_filter_le _ _) (by rw [List.length_take]; omega)
      by_cases hil : i < l.length
      ·have d4 : decide ((i : Int) < l.length) = true := decide_eq_true (by omega)
       have hs1 := zih l i hil
       have htk : l.take (i + 1) = l.take i ++ [l[i]] := List.take_succ_eq_append_getElem hil
       obtain ⟨r,hr⟩ : ∃ r,l[i] = r := ⟨_,rfl⟩
       rw [hr] at hs1 htk
       obtain ⟨k,v,o,t⟩ := r
       have hs1 : slot (l.map vrA) i = .agg [.str k,.str v,.w (.int .i64 o),.w (.int .i64 t)] := hs1
       have hck := hcnt k
       have hat : K.map vrA ++ [.agg [.str k,.str v,.w (.int .i64 o),.w (.int .i64 t)]] = (K ++ [(⟨k,v,o,t⟩ : VR)]).map vrA := by rw [List.map_append]; rfl
       have hyes : cnt rs k = 0 → K ++ [(⟨k,v,o,t⟩ : VR)] = kpV (l.take (i + 1)) rs := fun h => by rw [htk,hK]; unfold kpV; rw [List.filter_append]; simp [h]
       have hno : ¬ cnt rs k = 0 → K = kpV (l.take (i + 1)) rs := fun h => by rw [htk,hK]; unfold kpV; rw [List.filter_append]; simp [h]
       have hfin : ∀ (K' : List VR),K' = kpV (l.take (i + 1)) rs → K'.length ≤ i + 1 := fun K' h => by rw [h]; exact Nat.le_trans (List.length_filter_le _ _) (by rw [List.length_take]; omega)
       rcases hx : ixK k M2 0 with _ | ⟨j,a⟩
       ·have hz : cnt rs k = 0 := by rw [← hck]; unfold gtK; rw [hx]; rfl
        simp only [go_sem,zac,↓reduceIte,lcT,ty,zfy,zcu,hlp,d4,hs1,e1,zaz,hx,zdh,hat,hKm,Int.toNat_natCast]
        repeat (refine And.intro (by first | omega | decide) ?_)
        refine ⟨l.length - (i + 1),_,by omega,zaf [0,1,2,3,4,5,6,7,113] rfl rfl rfl ?_ ?_,i + 1,K ++ [(⟨k,v,o,t⟩ : VR)],rfl,by omega,hyes hz,rfl⟩
        ·simp only [ssT,zai,zaj,setSlot,gOf,AV.ren,renL,Blk.ren,Ax.look,Ax.put,reduceCtorEq,↓reduceIte,Nat.reduceEqDiff,Nat.reduceLT,Nat.reduceAdd,List.length_append,List.length_cons,List.length_nil,Option.some.injEq]; try simp
        ·simp only [ssT,zai,zaj,setSlot,gOf,AV.ren,renL,Blk.ren,Ax.look,Ax.put,reduceCtorEq,↓reduceIte,Nat.reduceEqDiff,Nat.reduceLT,Nat.reduceAdd,List.length_append,List.length_cons,List.length_nil,Option.some.injEq,zdb]; try simp
       ·by_cases ha : a = 0
        ·have hz : cnt rs k = 0 := by rw [← hck]; unfold gtK; rw [hx]; exact ha
         have d5 : decide (a = 0) = true := decide_eq_true ha
         simp only [go_sem,zac,↓reduceIte,lcT,ty,zfy,zcu,hlp,d4,d5,hs1,e1,zaz,hx,zck,hat,hKm,Int.toNat_natCast]
         repeat (refine And.intro (by first | omega | decide) ?_)
         refine ⟨l.length - (i + 1),_,by omega,zaf [0,1,2,3,4,5,6,7,113] rfl rfl rfl ?_ ?_,i + 1,K ++ [(⟨k,v,o,t⟩ : VR)],rfl,by omega,hyes hz,rfl⟩
         ·simp only [ssT,zai,zaj,setSlot,gOf,AV.ren,renL,Blk.ren,Ax.look,Ax.put,reduceCtorEq,↓reduceIte,Nat.reduceEqDiff,Nat.reduceLT,Nat.reduceAdd,List.length_append,List.length_cons,List.length_nil,Option.some.injEq]; try simp
         ·simp only [ssT,zai,zaj,setSlot,gOf,AV.ren,renL,Blk.ren,Ax.look,Ax.put,reduceCtorEq,↓reduceIte,Nat.reduceEqDiff,Nat.reduceLT,Nat.reduceAdd,List.length_append,List.length_cons,List.length_nil,Option.some.injEq,zdb]; try simp
        ·have hz : ¬ cnt rs k = 0 := by rw [← hck]; unfold gtK; rw [hx]; exact ha
         have d5 : decide (a = 0) = false := decide_eq_false ha
         simp only [go_sem,zac,↓reduceIte,lcT,ty,zfy,zcu,hlp,d4,d5,hs1,e1,zaz,hx,zck,hat,hKm,Int.toNat_natCast]
         repeat (refine And.intro (by first | omega | decide) ?_)
         refine ⟨l.length - (i + 1),_,by omega,zaf [0,1,2,3,4,5,6,7,8] rfl rfl rfl ?_ ?_,i + 1,K,rfl,by omega,hno hz,rfl⟩
         ·simp only [ssT,zai,zaj,setSlot,gOf,AV.ren,renL,Blk.ren,Ax.look,Ax.put,reduceCtorEq,↓reduceIte,Nat.reduceEqDiff,Nat.reduceLT,Nat.reduceAdd,List.length_append,List.length_cons,List.length_nil,Option.some.injEq]; try simp
         ·simp only [ssT,zai,zaj,setSlot,gOf,AV.ren,renL,Blk.ren,Ax.look,Ax.put,reduceCtorEq,↓reduceIte,Nat.reduceEqDiff,Nat.reduceLT,Nat.reduceAdd,List.length_append,List.length_cons,List.length_nil,Option.some.injEq,zdb]; try simp
      ·have d4 : decide ((i : Int) < l.length) = false := decide_eq_false (by omega)
       have htk : l.take i = l := List.take_of_length_le (by omega)
       rw [htk] at hK
       simp only [go_sem,zac,↓reduceIte,lcT,ty,zfy,zcu,hlp,d4]
       refine ⟨_,Weak.refl _,?_⟩
       simp only [go_sem,zac,↓reduceIte,lcT,ty,zfy,zcu,hlp]
       have hpK : K = kpV l rs := hK
       have hGp : (G ++ K).Perm (allV l b rs) := by rw [hAG,hpK]; exact List.perm_append_comm
       refine zfd ⟨fun m σ => ∃ (M : List VR) (now : Option (AV × AV)) (vs : List VR),m = M.length ∧ (M ++ vs).Perm (allV l b rs) ∧
         σ = ⟨[.junk,.junk,.junk,.rf 4 6 0 0,.rf 5 2 0 0,.junk,.junk,.junk,.junk,.junk,.ms 6 4 0 vs.length,.junk,.junk,.junk,.junk,.junk,.junk,.junk,.junk,.junk,.junk,.junk,.junk,.junk,.junk,.junk,.junk,.junk,.junk,.junk,.junk,.junk,.junk,.junk,.junk,.junk,.junk,.junk,.junk,.junk,.junk,.junk,.junk,.junk,.junk,.junk,.junk,.junk,.junk,.junk,.junk,.junk,.junk,.junk,.junk,.junk,.rf 7 1 0 0,.junk,.junk,.junk,.junk,.junk,.junk,.junk,.junk,.junk,.junk,.junk,.junk,.junk,.junk,.junk,.junk,.junk,.junk],
          [(4,.g 6 [.agg [.w (.int .i64 b),.w (.int .i64 c),.w (.int .i64 p),.w (.int .i64 e),.w (.int .i64 s),.sg 6 (rs.map rv) g]]),(5,.g 2 [.agg [.w (.int .i64 0),.sg 4 [] true]]),(6,.g 4 (vs.map vrA)),(7,.o (.mi (kvM M) now))],8⟩,?_,?_⟩
       ·refine ⟨_,_,zaf [0,1,2,3,4,5,8,25] rfl rfl rfl ?_ ?_,G,none,K,rfl,hGp,rfl⟩
        ·simp only [ssT,zai,zaj,setSlot,gOf,AV.ren,renL,Blk.ren,Ax.look,Ax.put,reduceCtorEq,↓reduceIte,Nat.reduceEqDiff,Nat.reduceLT,Nat.reduceAdd,List.length_append,List.length_cons,List.length_nil,Option.some.injEq]; try simp
        ·simp only [ssT,zai,zaj,setSlot,gOf,AV.ren,renL,Blk.ren,Ax.look,Ax.put,reduceCtorEq,↓reduceIte,Nat.reduceEqDiff,Nat.reduceLT,Nat.reduceAdd,List.length_append,List.length_cons,List.length_nil,Option.some.injEq,zdb]; try simp
       ·rintro m σ ⟨M,now,vs,rfl,hpm,rfl⟩
        have hlv : (vs.map vrA).length = vs.length := by simp
        have hln : (allV l b rs).length ≤ 2000000 := by have := ygk l b rs; omega
        have hvl : M.length + vs.length = (allV l b rs).length := by have := hpm.length_eq; rwa [List.length_append] at this
        simp only [go_sem,zac,↓reduceIte,lcT,ty,zfy,zji,zcu]
        refine ⟨fun he0 => ?_,fun j hj => ?_⟩
        ·have hM : M = [] := by cases M with
          | nil => rfl
          | cons p r => cases he0
         subst hM
         have hpv : vs.Perm (allV l b rs) := hpm
         have hlen := hpv.length_eq
         have hn0 : ∀ b0 : Bool,ztu [.agg [.w (.int .i64 b),.w (.int .i64 c),.w (.int .i64 p),.w (.int .i64 e),.w (.int .i64 s),.sg 6 (rs.map rv) b0]] [] = ⟨True,.w (.int .i64 (nxI b c)),[]⟩ := fun _ => rfl
         by_cases h6 : vs.length = 0
         ·obtain rfl : vs = [] := List.eq_nil_of_length_eq_zero h6
          have hE0 : E = 0 := by rw [← hE,if_neg (by omega)]
          subst hE0
          have hs0 : srtV (allV l b rs) = [] := List.eq_nil_of_length_eq_zero (by rw [zbp]; omega)
          have d0 : decide ((4096 : Int) < ((0 : Nat) : Int)) = false := by decide
          have hc0 : coe ty 33 (.sg 4 [] false) = .sg 4 [] false := rfl
          refine ⟨_,zpa 6 4 10 [] rfl rfl (by simp [slot,AV.ids]),?_⟩
          simp only [fgL,fgH,AV.fg,Blk.fg,Nat.reduceBEq,cond_true,cond_false,beq_self_eq_true,Bool.true_and,Bool.and_true,List.drop_zero,List.take_zero,List.length_nil,List.take_nil,List.drop_nil]
          simp only [go_sem,zac,↓reduceIte,lcT,ty,zfy,zji,zcu,vwA,zob,hn0,hs0,hc0,d0,List.map_nil]
          refine ⟨_,Weak.refl _,?_⟩
          simp only [go_sem,zac,↓reduceIte,lcT,ty,zfy,zji,zcu,List.map_nil]
         ·refine ⟨_,Weak.refl _,?_⟩
          by_cases h5 : 4096 < vs.length
          ·have d5 : decide ((4096 : Int) < vs.length) = true := decide_eq_true (by omega)
           have hE9 : E = 9 := by rw [← hE,if_pos (by omega)]
           subst hE9
           simp only [go_sem,zac,↓reduceIte,lcT,ty,zfy,zji,zcu,hlv,d5,vwA]
           refine ⟨_,Weak.refl _,?_⟩
           simp only [go_sem,zac,↓reduceIte,lcT,ty,zfy,zji,zcu,List.map_nil]
          ·have d5 : decide ((4096 : Int) < vs.length) = false := decide_eq_false (by omega)
           have hE0 : E = 0 := by rw [← hE,if_neg (by omega)]
           subst hE0
           have hkv := ykj hpv hna
           have hsv : srtV vs = srtV (allV l b rs) := yjm hpv hna
           have hv0 : 0 < vs.length := by omega
           have dv : decide (0 < vs.length) = true := decide_eq_true hv0
           have hxv : ∃ q : List VR,vs.map vrA = q.map vrA ∧ (zic q).Nodup := ⟨vs,rfl,hkv⟩
           have hv6 : vs.length < 4611686018427387904 := by omega
           have hsl : ((srtV (allV l b rs)).map vrA).length = vs.length := by rw [List.length_map,zbp]; omega
           obtain ⟨Z,hZ⟩ : ∃ Z,srtV (allV l b rs) = Z := ⟨_,rfl⟩
           rw [hZ] at hsv hsl ⊢
           have hdle : decide (0 + vs.length ≤ (Z.map vrA).length) = true := decide_eq_true (by omega)
           have htk : (Z.map vrA).take vs.length = Z.map vrA := List.take_of_length_le (by omega)
           simp only [go_sem,zac,↓reduceIte,lcT,ty,zfy,zji,zcu,hlv,d5,vwA,zob,hv0,dv,hxv,hv6,zdi,hsv,zdm,hn0]
           refine ⟨_,ypb 6 4 4 5 (Z.map vrA) _ rfl (zdm Z) rfl (by simp [slot,AV.ids]) (by simp [Blk.idsB,Blk.closed,closedL,AV.closed,idsL,AV.ids]),?_⟩
           simp only [fgL,fgH,AV.fg,Blk.fg,Nat.reduceBEq,cond_true,cond_false,hdle,Bool.and_true,beq_self_eq_true,Bool.true_and,List.drop_zero,htk]
           simp only [go_sem,zac,↓reduceIte,lcT,ty,zfy,zji,zcu]
        ·have hj' : j < M.length := by rw [kvM_len] at hj; exact hj
         have hg := kvM_get M j hj hj'
         have hEr := ylb M j
         have h9 := zqv M j hj'
         obtain ⟨q,hq⟩ : ∃ q,M[j] = q := ⟨_,rfl⟩
         rw [hq] at hg h9
         have hpm2 : (M.eraseIdx j ++ (vs ++ [q])).Perm (allV l b rs) := by
          have h4 : (M.eraseIdx j ++ (vs ++ [q])).Perm (q :: (M.eraseIdx j ++ vs)) := by
           rw [← List.append_assoc]; exact List.perm_append_singleton _ _
          exact h4.trans ((h9.symm.append_right vs).trans hpm)
         have hsh : (M.eraseIdx j).length < M.length := by rw [List.length_eraseIdx,if_pos hj']; omega
         obtain ⟨k,v,o,t⟩ := q
         have hg : (kvM M)[j] = (.str k,.agg [.str k,.str v,.w (.int .i64 o),.w (.int .i64 t)]) := hg
         have hat : vs.map vrA ++ [.agg [.str k,.str v,.w (.int .i64 o),.w (.int .i64 t)]] = (vs ++ [(⟨k,v,o,t⟩ : VR)]).map vrA := by rw [List.map_append]; rfl
         simp only [go_sem,zac,↓reduceIte,lcT,ty,zfy,zji,zcu,hg,hEr,ht,hlv,hat]
         repeat (refine And.intro (by first | omega | decide) ?_)
         refine ⟨(M.eraseIdx j).length,_,hsh,zaf [0,1,2,3,4,5,80,7] rfl rfl rfl ?_ ?_,M.eraseIdx j,some (.str k,.agg [.str k,.str v,.w (.int .i64 o),.w (.int .i64 t)]),vs ++ [(⟨k,v,o,t⟩ : VR)],rfl,hpm2,rfl⟩
         ·simp only [ssT,zai,zaj,setSlot,gOf,AV.ren,renL,Blk.ren,Ax.look,Ax.put,reduceCtorEq,↓reduceIte,Nat.reduceEqDiff,Nat.reduceLT,Nat.reduceAdd,List.length_append,List.length_cons,List.length_nil,Option.some.injEq]; try simp
         ·simp only [ssT,zai,zaj,setSlot,gOf,AV.ren,renL,Blk.ren,Ax.look,Ax.put,reduceCtorEq,↓reduceIte,Nat.reduceEqDiff,Nat.reduceLT,Nat.reduceAdd,List.length_append,List.length_cons,List.length_nil,Option.some.injEq,zdb]; try simp
   ·have d2 : decide (D = 0) = false := decide_eq_false h2
    rw [if_pos h1,if_neg h2] at hE
    subst hE
    simp only [go_sem,zac,↓reduceIte,lcT,ty,zfy,zji,zcu,ych,zke,hlp,hlr,hL9,hR9,hxl,hxr,zdi,zam,hC,hD,d1,d2,vwA,if_neg h2,List.map_nil]
    refine ⟨_,Weak.refl _,?_⟩
    simp only [go_sem,zac,↓reduceIte,lcT,ty,zfy,zji,zcu,List.map_nil]
  ·have d1 : decide (C = 0) = false := decide_eq_false h1
   rw [if_neg h1] at hE
   subst hE
   simp only [go_sem,zac,↓reduceIte,lcT,ty,zfy,zji,zcu,ych,hlp,hL9,hxl,zdi,hC,d1,vwA,if_neg h1,List.map_nil]
   refine ⟨_,Weak.refl _,?_⟩
   simp only [go_sem,zac,↓reduceIte,lcT,ty,zfy,zji,zcu,List.map_nil]
 ·exact hp.elim
end
end Go.Proofs.Ytebacgkeoefnkaa
namespace Go.Proofs.Ytebacgkeoefnkaa
open Ax
def gb1 (bs : List UInt8) (e : Int) := rfixL 1 bs e
def ge1 (bs : List UInt8) (e : Int) := rfixE 1 bs e
def gd (bs : List UInt8) (e : Int) : Int := numN (gb1 bs e) (ge1 bs e)
section
set_option maxRecDepth 100000
set_option maxHeartbeats 2000000 in
end
end Go.Proofs.Ytebacgkeoefnkaa
namespace Go.Proofs.Ytebacgkeoefnkaa
open Ax
theorem w1 : rchk 1 5 true [107] false [118] = 0 := by decide
theorem w2 : rchk 1 5 true [107] true [] = 0 := by decide
theorem w3 : recB 1 5 true [107] false [118] = [1,2,10,2,107,2,118] := by
 simp [recB,w1,recL,zvh,zpc,putU,zz]
theorem w4 : recB 1 5 true [107] true [] = [3,2,10,2,107] := by
 simp [recB,w2,recL,zvh,zpc,putU,zz]
theorem w6 : gd [1,2,10,2,107,2,118] 0 = 1 := by decide +kernel
section
set_option maxRecDepth 100000
set_option maxHeartbeats 1000000 in
end
end Go.Proofs.Ytebacgkeoefnkaa
namespace Go.Proofs.Ytebacgkeoefnkaa
open Ax
def dcV (l : List VR) (b : Int) (rs : List Rec) : List VR := rs.foldl (oneV b) l
def dcE (n : Int) (l : List VR) (x : Bat) : Int := if chV n l = 0 then (if bE x = 0 then (if x.b < n then 16 else if 4096 < (dcV l x.b x.rs).length then 9 else 0) else bE x) else chV n l
theorem ypt (b : Int) (l : List VR) (r : Rec) : (oneV b l r).length ≤ l.length + 1 := by
 unfold oneV
 have h1 := yje r.key l
 split
 ·split
  ·omega
  ·rw [List.length_append,List.length_cons,List.length_take,List.length_drop]; omega
 ·omega
theorem ymv (b : Int) : ∀ (rs : List Rec) (l : List VR),(rs.foldl (oneV b) l).length ≤ l.length + rs.length
 | [],l => by simp
 | r :: rs,l => by
  rw [List.foldl_cons]
  have h1 := ymv b rs (oneV b l r)
  have h2 := ypt b l r
  rw [List.length_cons]; omega
end Go.Proofs.Ytebacgkeoefnkaa
namespace Go.Proofs.Ytebacgkeoefnkaa
open Ax
def bldG (E : Int → List VR → Bat → Int) (A : List VR → Int → List Rec → List VR) : List Bat → Int → List VR → Bool → AV
 | [],n,l,f => vwA n l f 0
 | x :: xs,n,l,f => if E n l x = 0 then bldG E A xs (nxI x.b x.c) (A l x.b x.rs) false else vwA 0 [] true (E n l x)
def srA (l : List VR) (b : Int) (rs : List Rec) : List VR := srtV (allV l b rs)
def bldS (E : Int → List VR → Bat → Int) (A : List VR → Int → List Rec → List VR) : zas
 | [.sg 6 xs f],[] => ⟨xs.length ≤ 12 ∧ ∃ es : List (Bat × Bool),xs = es.map bvp ∧ ∀ p ∈ es,p.1.rs.length ≤ 40,bldG E A (xs.map ubat) 0 [] true,[]⟩
 | _,_ => zcj
def zru (f : FuncId) : Option zas :=
 match f with
 | 10 => some ygh
 | _ => none
theorem yrw : Fns Try.prog zru := by
 intro f s h
 unfold zru at h
 split at h
 ·injection h with h; subst h; exact ⟨⟨_,Try.func10,by kernel_rfl,by kernel_rfl⟩,ycw⟩
 ·cases h
theorem ytb (l : List VR) (b : Int) (rs : List Rec) : (srA l b rs).length ≤ l.length + rs.length := by
 unfold srA; rw [zbp]; exact ygk l b rs
def zxn : Plan := fun _ => none
section
set_option maxRecDepth 100000
set_option maxHeartbeats 16000000 in
theorem yit : zbg Try.prog 12 (bldS apE srA) := by
 refine zmo (S := zru) (T := ty) (pl := zxn) mixed ty_ok yrw Try.func12 (c := Try.f12.body.getD .skip) (by kernel_rfl) (by kernel_rfl) (fun xs pins hp _ => ?_)
 unfold bldS at hp ⊢
 split at hp
 ·rename_i xs f _
  obtain ⟨hL,es,rfl,he⟩ := hp
  rw [List.length_map] at hL
  have hlp : (es.map bvp).length = es.length := by simp
  have ht : top = 4294967296 := rfl
  rw [zcl]
  refine ⟨by simp,?_⟩
  obtain ⟨X,hX⟩ : ∃ X,bldG apE srA (es.map Prod.fst) 0 [] true = X := ⟨_,rfl⟩
  rw [hX]
  unfold Try.f12
  simp only [go_sem,zad,↓reduceIte,lcT,ty,zru,zxn,hlp]
  refine zea ⟨fun m σ => ∃ (i : Nat) (n : Int) (l : List VR) (fl : Bool),m = es.length - i ∧ i ≤ es.length ∧ l.length ≤ 40 * i ∧ bldG apE srA ((es.drop i).map Prod.fst) n l fl = X ∧
    σ = ⟨[.sg 6 (es.map bvp) f,.junk,.rf 4 2 0 0,.junk,.rf 5 2 0 0,.junk,.junk,.junk,.junk,.junk,.sg 6 (es.map bvp) f,.w (.int .i64 es.length),.w (.int .i64 i),.junk,.junk,.junk,.junk,.junk,.junk,.junk,.junk,.junk,.junk,.junk,.junk,.junk,.junk,.junk,.junk],[(4,.g 2 [.agg [.w (.int .i64 0),.sg 4 [] true]]),(5,.g 2 [.agg [.w (.int .i64 n),.sg 4 (l.map vrA) fl]])],6⟩,?_,?_⟩
  ·refine ⟨_,_,zaf [0,1,2,3,4,28] rfl rfl rfl ?_ ?_,0,0,[],true,rfl,by omega,by simp,by rw [List.drop_zero]; exact hX,rfl⟩
   ·simp only [ssT,zai,zaj,setSlot,gOf,AV.ren,renL,Blk.ren,Ax.look,Ax.put,reduceCtorEq,↓reduceIte,Nat.reduceEqDiff,Nat.reduceLT,Nat.reduceAdd,List.length_append,List.length_cons,List.length_nil,Option.some.injEq]; try simp
   ·simp only [ssT,zai,zaj,setSlot,gOf,AV.ren,renL,Blk.ren,Ax.look,Ax.put,reduceCtorEq,↓reduceIte,Nat.reduceEqDiff,Nat.reduceLT,Nat.reduceAdd,List.length_append,List.length_cons,List.length_nil,Option.some.injEq]; try simp [renL]
  ·rintro m σ ⟨i,n,l,fl,rfl,hi,hl,hI,rfl⟩
   have e1 : ((i : Int) + 1 + 9223372036854775808) % 18446744073709551616 - 9223372036854775808 = ((i + 1 : Nat) : Int) := by omega
   by_cases hil : i < es.length
   ·have d4 : decide ((i : Int) < es.length) = true := decide_eq_true (by omega)
    have hs1 := zhk es i hil
    have m1 := he es[i] (List.getElem_mem hil)
    have hdr : es.drop i = es[i] :: es.drop (i + 1) := List.drop_eq_getElem_cons hil
    obtain ⟨P,hP⟩ : ∃ P,es[i] = P := ⟨_,rfl⟩
    rw [hP] at hs1 m1 hdr
    rw [hdr,List.map_cons] at hI
    obtain ⟨⟨b,c,p,e,s,rs⟩,f'⟩ := P
    have hs1 : slot (es.map bvp) i = .agg [.w (.int .i64 b),.w (.int .i64 c),.w (.int .i64 p),.w (.int .i64 e),.w (.int .i64 s),.sg 6 (rs.map rv) f'] := hs1
    simp only at m1
    have hcl : ∀ f,coe ty 33 (.sg 4 (l.map vrA) f) = .sg 4 (l.map vrA) f := fun f => by cases l <;> rfl
    have hlq : (l.map vrA).length = l.length := by simp
    have hlr : (rs.map rv).length = rs.length := by simp
    have hxl : ∃ q : List VR,l.map vrA = q.map vrA := ⟨l,rfl⟩
    have hxr : ∃ q : List Rec,rs.map rv = q.map rv := ⟨rs,rfl⟩
    have hl9 : l.length ≤ 1000000 := by omega
    have hr9 : rs.length ≤ 1000000 := by omega
    have hLn := ytb l b rs
    unfold bldG at hI
    have hap : ∀ f0,ygh [.agg [.w (.int .i64 n),.sg 4 (l.map vrA) fl],.agg [.w (.int .i64 b),.w (.int .i64 c),.w (.int .i64 p),.w (.int .i64 e),.w (.int .i64 s),.sg 6 (rs.map rv) f0]] [] = ⟨l.length ≤ 1000000 ∧ rs.length ≤ 1000000 ∧ (∃ q : List VR,l.map vrA = q.map vrA) ∧ ∃ q : List Rec,rs.map rv = q.map rv,apA n l ⟨b,c,p,e,s,rs⟩,[]⟩ := fun f0 => by
     show (⟨(l.map vrA).length ≤ 1000000 ∧ (rs.map rv).length ≤ 1000000 ∧ (∃ q : List VR,l.map vrA = q.map vrA) ∧ ∃ q : List Rec,rs.map rv = q.map rv,apA n ((l.map vrA).map uvr) ⟨b,c,p,e,s,(rs.map rv).map rrec⟩,[]⟩ : Res) = _
     rw [zdi,zam,hlq,hlr]
    by_cases h0 : apE n l ⟨b,c,p,e,s,rs⟩ = 0
    ·have hA : apA n l ⟨b,c,p,e,s,rs⟩ = .tup [.agg [.w (.int .i64 (nxI b c)),.sg 4 ((srA l b rs).map vrA) false],.w (.int .i64 0)] := if_pos h0
     rw [if_pos h0] at hI
     obtain ⟨L,hLL⟩ : ∃ L,srA l b rs = L := ⟨_,rfl⟩
     simp only [hLL] at hI hA hLn
     simp only [hA] at hap
     simp only [go_sem,zad,↓reduceIte,lcT,ty,zru,zxn,hlp,d4,hs1,e1,hcl,hap,hl9,hr9,hxl,hxr,zdm,Int.toNat_natCast]
     repeat (first | refine And.intro (by omega) ?_ | refine And.intro ⟨by omega,by omega⟩ ?_)
     refine ⟨es.length - (i + 1),_,by omega,zaf [0,1,2,3,4,5] rfl rfl rfl ?_ ?_,i + 1,nxI b c,L,false,rfl,by omega,by omega,hI,rfl⟩
     ·simp only [ssT,zai,zaj,setSlot,gOf,AV.ren,renL,Blk.ren,Ax.look,Ax.put,reduceCtorEq,↓reduceIte,Nat.reduceEqDiff,Nat.reduceLT,Nat.reduceAdd,List.length_append,List.length_cons,List.length_nil,Option.some.injEq]; try simp
     ·simp only [ssT,zai,zaj,setSlot,gOf,AV.ren,renL,Blk.ren,Ax.look,Ax.put,reduceCtorEq,↓reduceIte,Nat.reduceEqDiff,Nat.reduceLT,Nat.reduceAdd,List.length_append,List.length_cons,List.length_nil,Option.some.injEq,zdb]; try simp
    ·have hA : apA n l ⟨b,c,p,e,s,rs⟩ = .tup [.agg [.w (.int .i64 0),.sg 4 [] true],.w (.int .i64 (apE n l ⟨b,c,p,e,s,rs⟩))] := if_neg h0
     rw [if_neg h0] at hI
     have d5 : decide (apE n l ⟨b,c,p,e,s,rs⟩ = 0) = false := decide_eq_false h0
     obtain ⟨C,hC⟩ : ∃ C,apE n l ⟨b,c,p,e,s,rs⟩ = C := ⟨_,rfl⟩
     rw [hC] at hI hA d5
     simp only [hA] at hap
     subst hI
     simp only [go_sem,zad,↓reduceIte,lcT,ty,zru,zxn,hlp,d4,d5,hs1,e1,hcl,hap,hl9,hr9,hxl,hxr,zdm,vwA,List.map_nil,Int.toNat_natCast]
     repeat (first | refine And.intro (by omega) ?_ | refine And.intro ⟨by omega,by omega⟩ ?_)
     refine ⟨_,Weak.refl _,?_⟩
     simp only [go_sem,zad,↓reduceIte,lcT,ty,zru,zxn]
     try (refine ⟨_,Weak.refl _,?_⟩; simp only [go_sem,zad,↓reduceIte,lcT,ty,zru,zxn])
   ·have d4 : decide ((i : Int) < es.length) = false := decide_eq_false (by omega)
    have hdr : es.drop i = [] := List.drop_eq_nil_of_le (by omega)
    rw [hdr] at hI
    have hI : vwA n l fl 0 = X := hI
    subst hI
    simp only [go_sem,zad,↓reduceIte,lcT,ty,zru,zxn,hlp,d4,vwA]
    refine ⟨_,Weak.refl _,?_⟩
    simp only [go_sem,zad,↓reduceIte,lcT,ty,zru,zxn,zdm]
    try (refine ⟨_,Weak.refl _,?_⟩; simp only [go_sem,zad,↓reduceIte,lcT,ty,zru,zdm])
 ·exact hp.elim
end
end Go.Proofs.Ytebacgkeoefnkaa
namespace Go.Proofs.Ytebacgkeoefnkaa
open Ax
def okR (n : Int) (r : VR) : Prop := r.k.length ≤ 64 ∧ r.v.length ≤ 512 ∧ 0 ≤ r.o ∧ r.o < n ∧ 0 ≤ r.t ∧ r.t ≤ 1099511627776
section
set_option maxRecDepth 100000
set_option maxHeartbeats 16000000 in
end
end Go.Proofs.Ytebacgkeoefnkaa
namespace Go.Proofs.Ytebacgkeoefnkaa
open Ax
def srtR (l : List VR) : Prop := l.Pairwise fun x y => x.k < y.k
theorem zwl (key : List UInt8) : ∀ W : List VR,srtR W →
  W.take (wiN key W) = W.filter (fun r => decide (r.k < key)) ∧ W.drop (wiN key W) = W.filter (fun r => !decide (r.k < key))
 | [],_ => ⟨rfl,rfl⟩
 | x :: W,h => by
  have h2 := List.pairwise_cons.1 h
  by_cases hx : x.k < key
  ·have hb : Op.bytesLess x.k key = true := by rw [bytesLess_eq]; exact decide_eq_true hx
   have hc : wiN key (x :: W) = wiN key W + 1 := by unfold wiN; rw [List.countP_cons,if_pos hb]
   obtain ⟨i1,i2⟩ := zwl key W h2.2
   rw [hc,List.take_succ_cons,List.drop_succ_cons,i1,i2]
   simp [hx]
  ·have hall : ∀ y ∈ W,¬ y.k < key := fun y hy hlt => hx (List.lt_trans (h2.1 y hy) hlt)
   have hc : wiN key (x :: W) = 0 := by
    unfold wiN
    rw [List.countP_eq_zero]
    intro y hy hb
    rw [bytesLess_eq] at hb
    have hb := of_decide_eq_true hb
    rcases List.mem_cons.1 hy with rfl | hy
    ·exact hx hb
    ·exact hall y hy hb
   rw [hc,List.take_zero,List.drop_zero]
   constructor
   ·symm; rw [List.filter_eq_nil_iff]
    intro y hy hd
    have hd := of_decide_eq_true hd
    rcases List.mem_cons.1 hy with rfl | hy
    ·exact hx hd
    ·exact hall y hy hd
   ·symm; rw [List.filter_eq_self]
    intro y hy
    rcases List.mem_cons.1 hy with rfl | hy
    ·simp [hx]
    ·simp [hall y hy]
theorem ysv (key : List UInt8) (l : List VR) : wiN key (wiL key l) = wiN key l := by
 unfold wiN wiL
 rw [List.countP_filter]
 refine List.countP_congr fun r _ => ?_
 rw [bytesLess_eq]
 simp only [Bool.and_eq_true,decide_eq_true_eq]
 exact ⟨fun h => h.1,fun h => ⟨h,fun e => by rw [e] at h; exact List.lt_irrefl _ h⟩⟩
theorem zuv (b : Int) {l : List VR} (r : Rec) (hs : srtR l) (hk : r.k = true) (hd : ¬ r.dd = true) :
  srtR (oneV b l r) ∧ ∀ x,x ∈ oneV b l r ↔ (x ∈ l ∧ ¬ x.k = r.key) ∨ x = rowR b r := by
 have hW : srtR (wiL r.key l) := hs.sublist List.filter_sublist
 obtain ⟨h1,h2⟩ := zwl r.key _ hW
 rw [ysv] at h1 h2
 have hmW : ∀ x,x ∈ wiL r.key l ↔ x ∈ l ∧ ¬ x.k = r.key := fun x => by unfold wiL; rw [List.mem_filter,decide_eq_true_eq]
 unfold oneV
 rw [if_pos hk,if_neg hd,h1,h2]
 refine ⟨?_,fun x => ?_⟩
 ·refine List.pairwise_append.2 ⟨hW.sublist List.filter_sublist,List.pairwise_cons.2 ⟨fun y hy => ?_,hW.sublist List.filter_sublist⟩,fun x hx y hy => ?_⟩
  ·obtain ⟨hy1,hy2⟩ := List.mem_filter.1 hy
   have hne := ((hmW y).1 hy1).2
   have hnl : ¬ y.k < r.key := by simpa using hy2
   show r.key < y.k
   rcases List.le_total r.key y.k with h | h
   ·exact Decidable.byContradiction fun hc => hne (List.le_antisymm (List.not_lt.1 hc) h)
   ·exact absurd (List.le_antisymm h (List.not_lt.1 hnl)) hne
  ·obtain ⟨hx1,hx2⟩ := List.mem_filter.1 hx
   have hxl := of_decide_eq_true hx2
   rcases List.mem_cons.1 hy with rfl | hy
   ·exact hxl
   ·obtain ⟨hy1,hy2⟩ := List.mem_filter.1 hy
    have hnl : ¬ y.k < r.key := by simpa using hy2
    exact Decidable.byContradiction fun hc => hnl (List.lt_of_le_of_lt (List.not_lt.1 hc) hxl)
 ·rw [List.mem_append,List.mem_cons,List.mem_filter,List.mem_filter,← hmW]
  constructor
  ·rintro (h | rfl | h)
   ·exact .inl h.1
   ·exact .inr rfl
   ·exact .inl h.1
  ·rintro (h | rfl)
   ·by_cases hl : x.k < r.key
    ·exact .inl ⟨h,decide_eq_true hl⟩
    ·exact .inr (.inr ⟨h,by simp [hl]⟩)
   ·exact .inr (.inl rfl)
theorem yso (l : List VR) (b : Int) (rs : List Rec) (hs : srtR l) : ∀ i,i ≤ rs.length →
  srtR (dcV l b (rs.take i)) ∧ ∀ x,x ∈ dcV l b (rs.take i) ↔ (x ∈ l ∧ (rs.take i).countP (zib x.k) = 0) ∨ x ∈ mdV b (rs.take i)
 | 0,_ => ⟨by rw [List.take_zero]; exact hs,fun x => by rw [List.take_zero]; simp [dcV,mdV]⟩
 | i + 1,hi => by
  obtain ⟨i1,i2⟩ := yso l b rs hs i (by omega)
  have htk : rs.take (i + 1) = rs.take i ++ [rs[i]] := List.take_succ_eq_append_getElem (by omega)
  rw [htk]
  obtain ⟨p,hp⟩ : ∃ p,rs.take i = p := ⟨_,rfl⟩
  obtain ⟨r,hr⟩ : ∃ r,rs[i] = r := ⟨_,rfl⟩
  rw [hp] at i1 i2 ⊢
  rw [hr]
  have e1 : dcV l b (p ++ [r]) = oneV b (dcV l b p) r := by unfold dcV; rw [List.foldl_append]; rfl
  have e2 : mdV b (p ++ [r]) = mdK b (mdV b p) r := by unfold mdV; rw [List.foldl_append]; rfl
  have e3 : ∀ k,(p ++ [r]).countP (zib k) = p.countP (zib k) + if zib k r = true then 1 else 0 := fun k => by rw [List.countP_append,List.countP_singleton]
  have ho : zuw (mdV b p) := (ybd b p [] List.nodup_nil).1
  rw [e1,e2]
  by_cases hk : r.k = true
  ·have hz : ∀ x : VR,(p ++ [r]).countP (zib x.k) = 0 ↔ p.countP (zib x.k) = 0 ∧ ¬ x.k = r.key := fun x => by
    rw [e3]
    unfold zib
    rw [hk]
    by_cases e : r.key = x.k
    ·simp [e]
    ·have e' : ¬ x.k = r.key := fun h => e h.symm
     simp [e,e']
   by_cases hd : r.dd = true
   ·have a1 : oneV b (dcV l b p) r = wiL r.key (dcV l b p) := by unfold oneV; rw [if_pos hk,if_pos hd]
    have a2 : mdK b (mdV b p) r = ctR (mdV b p) r.key := by unfold mdK; rw [if_pos hk,if_pos hd]
    rw [a1,a2]
    refine ⟨i1.sublist List.filter_sublist,fun x => ?_⟩
    rw [hz,(zvq _ r.key ho).2 x]
    unfold wiL
    rw [List.mem_filter,decide_eq_true_eq,i2]
    constructor
    ·rintro ⟨h1 | h1,h2⟩
     ·exact .inl ⟨h1.1,h1.2,h2⟩
     ·exact .inr ⟨h1,h2⟩
    ·rintro (⟨h1,h2,h3⟩ | ⟨h1,h2⟩)
     ·exact ⟨.inl ⟨h1,h2⟩,h3⟩
     ·exact ⟨.inr h1,h2⟩
   ·obtain ⟨o1,o2⟩ := zuv b r i1 hk hd
    have a2 : mdK b (mdV b p) r = ptR (mdV b p) (rowR b r) := by unfold mdK; rw [if_pos hk,if_neg hd]
    rw [a2]
    refine ⟨o1,fun x => ?_⟩
    rw [hz,(zuu _ (rowR b r) ho).2 x,o2,i2]
    have er : (rowR b r).k = r.key := rfl
    rw [er]
    constructor
    ·rintro (⟨h1 | h1,h2⟩ | h1)
     ·exact .inl ⟨h1.1,h1.2,h2⟩
     ·exact .inr (.inl ⟨h1,h2⟩)
     ·exact .inr (.inr h1)
    ·rintro (⟨h1,h2,h3⟩ | ⟨h1,h2⟩ | h1)
     ·exact .inl ⟨.inl ⟨h1,h2⟩,h3⟩
     ·exact .inl ⟨.inr h1,h2⟩
     ·exact .inr h1
  ·have hz : ∀ x : VR,(p ++ [r]).countP (zib x.k) = p.countP (zib x.k) := fun x => by
    rw [e3]; unfold zib; simp [hk]
   have a1 : oneV b (dcV l b p) r = dcV l b p := by unfold oneV; rw [if_neg hk]
   have a2 : mdK b (mdV b p) r = mdV b p := by unfold mdK; rw [if_neg hk]
   rw [a1,a2]
   refine ⟨i1,fun x => ?_⟩
   rw [hz]; exact i2 x
theorem chV_srt {n : Int} {l : List VR} (h : chV n l = 0) : srtR l := by
 unfold chV at h
 by_cases h0 : n < 0 ∨ 4611686018427387903 < n ∨ 4096 < l.length
 ·rw [if_pos h0] at h; cases h
 ·rw [if_neg h0] at h
  by_cases h1 : badV n l = 0
  ·rw [if_pos h1] at h
   by_cases h2 : risV l = true
   ·exact yjv l h2
   ·rw [if_neg h2] at h; cases h
  ·rw [if_neg h1] at h; exact absurd h h1
theorem dc_ap {n : Int} {l : List VR} (h : chV n l = 0) (b : Int) (rs : List Rec) : dcV l b rs = srA l b rs := by
 have hs := chV_srt h
 obtain ⟨h1,h2⟩ := yso l b rs hs rs.length (Nat.le_refl _)
 rw [List.take_length] at h1 h2
 have hna : (zic (allV l b rs)).Nodup := ydv (b := b) (rs := rs) h
 have hmem : ∀ x,x ∈ allV l b rs ↔ (x ∈ l ∧ rs.countP (zib x.k) = 0) ∨ x ∈ mdV b rs := fun x => by
  unfold allV kpV
  rw [List.mem_append,List.mem_filter,decide_eq_true_eq,zzc]
  constructor
  ·rintro (⟨h3,h4⟩ | h3)
   ·exact .inl ⟨h3,by omega⟩
   ·exact .inr h3
  ·rintro (⟨h3,h4⟩ | h3)
   ·exact .inl ⟨h3,by omega⟩
   ·exact .inr h3
 have nd1 : (allV l b rs).Nodup := List.Pairwise.of_map (fun r : VR => r.k) (fun x y hxy e => hxy (by rw [e])) hna
 have nd2 : (dcV l b rs).Nodup := h1.imp fun {x y} hxy e => by rw [e] at hxy; exact List.lt_irrefl _ hxy
 have hp : (dcV l b rs).Perm (allV l b rs) := (List.perm_ext_iff_of_nodup nd2 nd1).2 fun x => (h2 x).trans (hmem x).symm
 exact zpd hna hp (h1.imp fun {x y} hxy hyx => List.lt_irrefl _ (List.lt_trans hxy hyx))
theorem dc_len {n : Int} {l : List VR} (h : chV n l = 0) (b : Int) (rs : List Rec) : (dcV l b rs).length = (allV l b rs).length := by
 rw [dc_ap h]; unfold srA; exact zbp _
theorem dcE_apE (n : Int) (l : List VR) (x : Bat) : dcE n l x = apE n l x := by
 unfold dcE apE
 by_cases h : chV n l = 0
 ·rw [if_pos h,if_pos h,dc_len h]
 ·rw [if_neg h,if_neg h]
theorem apE_ch {n : Int} {l : List VR} {x : Bat} (h : apE n l x = 0) : chV n l = 0 := by
 unfold apE at h
 by_cases h0 : chV n l = 0
 ·exact h0
 ·rw [if_neg h0] at h; exact absurd h h0
theorem yfy : ∀ (xs : List Bat) (n : Int) (l : List VR) (f : Bool),bldG dcE dcV xs n l f = bldG apE srA xs n l f
 | [],n,l,f => rfl
 | x :: xs,n,l,f => by
  unfold bldG
  rw [dcE_apE]
  by_cases h : apE n l x = 0
  ·rw [if_pos h,if_pos h,dc_ap (apE_ch h),yfy xs]
  ·rw [if_neg h,if_neg h]
end Go.Proofs.Ytebacgkeoefnkaa
namespace Go.Proofs.Ytebacgkeoefnkaa
open Ax
def wrI (a : Int) : Int := (a + 9223372036854775808) % 18446744073709551616 - 9223372036854775808
def ybi (t now g : Int) : Bool := decide (0 ≤ now) && (decide (0 ≤ t) && decide (max g 0 < wrI (now - t)))
def zjw (m : KM) (b : Int) (r : Rec) (now g : Int) : Bool := !r.k || (decide ((gtK m r.key).getD 0 = offI b r.d) && !(r.dd && ybi r.t now g))
def zpy : zas
 | [.agg [.w (.int .i64 d),.w (.int .i64 t),.w (.bool k),.str key,.w (.bool dd),.str val],.w (.int .i64 now),.w (.int .i64 g)],[] => ⟨True,.w (.bool (ybi t now g)),[]⟩
 | _,_ => zcj
def zoo : zas
 | [.agg [.w (.int .i64 b),.w (.int .i64 c),.w (.int .i64 p),.w (.int .i64 e),.w (.int .i64 s),.sg 6 xs f],.agg [.w (.int .i64 d),.w (.int .i64 t),.w (.bool k),.str key,.w (.bool dd),.str val],.rf 0 0 0 0,.w (.int .i64 now),.w (.int .i64 g)],[.o (.mp es)] =>
   ⟨∃ m,es = kvA m,.w (.bool (zjw (es.map ukv) b ⟨d,t,k,key,dd,val⟩ now g)),[.o (.mp es)]⟩
 | _,_ => zcj
section
set_option maxRecDepth 100000
theorem zya : zbg Try.prog 67 zpy := by
 refine zbb (S := noS) (T := ty) mixed ty_ok zel Try.func67 (c := Try.f67.body.getD .skip) (by kernel_rfl) (by kernel_rfl) (fun xs pins hp _ => ?_)
 unfold zpy at hp ⊢
 split at hp
 ·rename_i d t k key dd val now g _
  refine ⟨by simp,?_⟩
  have hw : (now - t + 9223372036854775808) % 18446744073709551616 - 9223372036854775808 = wrI (now - t) := rfl
  have hm : (if g > 0 then g else 0) = max g 0 := by split <;> omega
  have hm2 : (if 0 > g then 0 else g) = max g 0 := by split <;> omega
  obtain ⟨W,hW⟩ : ∃ W,wrI (now - t) = W := ⟨_,rfl⟩
  obtain ⟨V,hV⟩ : ∃ V,max g 0 = V := ⟨_,rfl⟩
  rw [hW] at hw
  rw [hV] at hm hm2
  unfold Try.f67
  by_cases h1 : 0 ≤ now <;> by_cases h2 : 0 ≤ t <;> by_cases h3 : V < W
  all_goals
   simp only [go_sem,zaa,↓reduceIte,ty,noS,hw,hm,hm2,hV,h1,h2,h3,decide_true,decide_false]
   unfold ybi
   rw [hW,hV]
   simp [h1,h2,h3]
 ·exact hp.elim
def yiz (f : FuncId) : Option zas :=
 match f with
 | 67 => some zpy
 | _ => none
theorem yrr : Fns Try.prog yiz := by
 intro f s h
 unfold yiz at h
 split at h
 ·injection h with h; subst h; exact ⟨⟨_,Try.func67,by kernel_rfl,by kernel_rfl⟩,zya⟩
 ·cases h
theorem zun : zbg Try.prog 40 zoo := by
 refine zbb (S := yiz) (T := ty) mixed ty_ok yrr Try.func40 (c := Try.f40.body.getD .skip) (by kernel_rfl) (by kernel_rfl) (fun xs pins hp _ => ?_)
 unfold zoo at hp ⊢
 split at hp
 ·rename_i b c p e s xs f d t k key dd val now g es _
  obtain ⟨m,rfl⟩ := hp
  refine ⟨by simp,?_⟩
  rw [yjh]
  have hof : (b + d + 9223372036854775808) % 18446744073709551616 - 9223372036854775808 = offI b d := rfl
  obtain ⟨O,hO⟩ : ∃ O,offI b d = O := ⟨_,rfl⟩
  rw [hO] at hof
  obtain ⟨L,hL⟩ : ∃ L,ybi t now g = L := ⟨_,rfl⟩
  unfold Try.f40
  cases k with
  | false =>
   have hv : zjw m b ⟨d,t,false,key,dd,val⟩ now g = true := rfl
   simp only [go_sem,zaa,↓reduceIte,ty,yiz,hv,Bool.not_false]
  | true =>
   rcases hx : ixK key m 0 with _ | ⟨j,a⟩
   ·have hg : (gtK m key).getD 0 = 0 := by unfold gtK; rw [hx]; rfl
    have hv : zjw m b ⟨d,t,true,key,dd,val⟩ now g = (decide (0 = O) && !(dd && L)) := by unfold zjw; simp only [hg,hO,hL]; rfl
    by_cases h1 : 0 = O <;> cases dd <;> cases L
    all_goals
     simp only [h1,decide_true,decide_false,Bool.true_and,Bool.false_and,Bool.and_true,Bool.and_false,Bool.not_true,Bool.not_false] at hv
     simp only [go_sem,zaa,↓reduceIte,ty,yiz,zpy,hv,hof,hL,zaz,hx,zdh,h1,decide_true,decide_false,Bool.not_true,Bool.not_false]
   ·have hg : (gtK m key).getD 0 = a := by unfold gtK; rw [hx]; rfl
    have hv : zjw m b ⟨d,t,true,key,dd,val⟩ now g = (decide (a = O) && !(dd && L)) := by unfold zjw; simp only [hg,hO,hL]; rfl
    by_cases h1 : a = O <;> cases dd <;> cases L
    all_goals
     simp only [h1,decide_true,decide_false,Bool.true_and,Bool.false_and,Bool.and_true,Bool.and_false,Bool.not_true,Bool.not_false] at hv
     simp only [go_sem,zaa,↓reduceIte,ty,yiz,zpy,hv,hof,hL,zaz,hx,zck,h1,decide_true,decide_false,Bool.not_true,Bool.not_false]
 ·exact hp.elim
def ziw : zas
 | [.agg [.w (.int .i64 d),.w (.int .i64 t),.w (.bool k),.str key,.w (.bool dd),.str val],.rf 0 6 0 0,.rf 1 1 0 0,.cp [.w (.int .i64 now)],.cp [.w (.int .i64 g)]],[.g 6 [.agg [.w (.int .i64 b),.w (.int .i64 c),.w (.int .i64 p),.w (.int .i64 e),.w (.int .i64 s),.sg 6 xs f]],.g 1 [.rf 2 0 0 0],.o (.mp es)] =>
   ⟨∃ m,es = kvA m,.w (.bool (!zjw (es.map ukv) b ⟨d,t,k,key,dd,val⟩ now g)),[.g 6 [.agg [.w (.int .i64 b),.w (.int .i64 c),.w (.int .i64 p),.w (.int .i64 e),.w (.int .i64 s),.sg 6 xs f]],.g 1 [.rf 2 0 0 0],.o (.mp es)]⟩
 | _,_ => zcj
def yoq (f : FuncId) : Option zas :=
 match f with
 | 40 => some zoo
 | _ => none
theorem yrv : Fns Try.prog yoq := by
 intro f s h
 unfold yoq at h
 split at h
 ·injection h with h; subst h; exact ⟨⟨_,Try.func40,by kernel_rfl,by kernel_rfl⟩,zun⟩
 ·cases h
def stdPl : zlp := fun _ => .std
theorem zog : zol Try.prog 39 ziw := by
 refine zqi (S := yoq) (SO := noO) (T := ty) mixed ty_ok yrv ysh Try.func39 (c := Try.f39.body.getD .skip) (by kernel_rfl) (fun xs pins hp => ?_)
 unfold ziw at hp ⊢
 split at hp
 ·rename_i d t k key dd val now g b c p e s xs f es
  have hp : ∃ m,es = kvA m := hp
  refine ⟨by simp,stdPl,by kernel_rfl,?_⟩
  obtain ⟨V,hV⟩ : ∃ V,zjw (es.map ukv) b ⟨d,t,k,key,dd,val⟩ now g = V := ⟨_,rfl⟩
  unfold Try.f39
  simp only [go_sem,zac,↓reduceIte,lcT,ty,yoq,zoo,stdPl,hp,hV]
  try (refine ⟨_,Weak.refl _,?_⟩)
  try simp only [go_sem,zac,↓reduceIte,lcT,ty,yoq,hV]
 ·exact hp.elim
end
end Go.Proofs.Ytebacgkeoefnkaa
namespace Go.Proofs.Ytebacgkeoefnkaa
open Ax
def zle (P : Rec → Bool) : List Rec → Int → Int
 | [],_ => -1
 | r :: rs,i => if P r then i else zle P rs (i + 1)
section
set_option maxRecDepth 100000
set_option maxHeartbeats 1000000 in
end
end Go.Proofs.Ytebacgkeoefnkaa
namespace Go.Proofs.Ytebacgkeoefnkaa
open Ax
theorem ydk {w : World} {loc : Ax.Loc} {v : Value} {s : Nat} (s' : Nat) {f : Bool} (h : R w loc (.sg s [] f) v) : R w loc (.sg s' [] false) v := by
 cases h with
 | sg _ _ _ a cap cs hd hs hc hl hx hh => exact .sg s' [] false a cap cs ⟨hd.le,hd.top,fun h => by cases h⟩ (by simp) hc hl hx hh
def emp6 (xs : List AV) : Bool := xs.isEmpty
theorem zow : emp6 [] = true := rfl
def zlh : zas
 | [.sg 6 xs f],[] => ⟨xs.length ≤ 1000000 ∧ ∃ rs : List Rec,xs = rs.map rv,bif emp6 xs then .sg 6 [] false else .ms 0 6 0 xs.length,bif emp6 xs then [] else [.g 6 xs]⟩
 | _,_ => zcj
def zvr : zlp := fun id => match id with
 | 1 => .tst [false,true]
 | _ => .std
def zze : zlp := fun id => match id with
 | 1 => .tst [false,true]
 | 3 => .tst [true,false,true]
 | _ => .std
def goB (m : KM) (b now g : Int) (r : Rec) : Bool := !zjw m b r now g
def ztf : zas
 | [.ms 0 6 0 n,.fn id [.rf 1 6 0 0,.rf 2 1 0 0,.cp [.w (.int .i64 now)],.cp [.w (.int .i64 g)]]],[.g 6 ys,.g 6 [.agg [.w (.int .i64 b),.w (.int .i64 c),.w (.int .i64 p),.w (.int .i64 e),.w (.int .i64 s),.sg 6 xs f]],.g 1 [.rf 3 0 0 0],.o (.mp es)] =>
   ⟨id = 39 ∧ (0 < n ∧ n = ys.length ∧ n ≤ 1000000) ∧ (∃ rs : List Rec,ys = rs.map rv) ∧ ∃ m,es = kvA m,.w (.int .i64 (zle (goB (es.map ukv) b now g) (ys.map rrec) 0)),[.g 6 ys,.g 6 [.agg [.w (.int .i64 b),.w (.int .i64 c),.w (.int .i64 p),.w (.int .i64 e),.w (.int .i64 s),.sg 6 xs f]],.g 1 [.rf 3 0 0 0],.o (.mp es)]⟩
 | [.sg 6 [] f0,.fn id [.rf 0 6 0 0,.rf 1 1 0 0,.cp [.w (.int .i64 now)],.cp [.w (.int .i64 g)]]],[.g 6 [.agg [.w (.int .i64 b),.w (.int .i64 c),.w (.int .i64 p),.w (.int .i64 e),.w (.int .i64 s),.sg 6 xs f]],.g 1 [.rf 2 0 0 0],.o (.mp es)] =>
   ⟨id = 39,.w (.int .i64 (-1)),[.g 6 [.agg [.w (.int .i64 b),.w (.int .i64 c),.w (.int .i64 p),.w (.int .i64 e),.w (.int .i64 s),.sg 6 xs f]],.g 1 [.rf 2 0 0 0],.o (.mp es)]⟩
 | _,_ => zcj
def zwg (f : FuncId) : Option zas :=
 match f with
 | 39 => some ziw
 | _ => none
theorem yry : FnsO Try.prog zwg := by
 intro f s h
 unfold zwg at h
 split at h
 ·injection h with h; subst h; exact ⟨⟨_,Try.func39,by kernel_rfl,by kernel_rfl⟩,zog⟩
 ·cases h
def zer : zlp := fun id => match id with
 | 4 => .opn [] 5
 | _ => .std
section
set_option maxRecDepth 100000
set_option maxHeartbeats 1000000 in
theorem zzd : zbg Try.prog 42 zlh := by
 refine znv (S := noS) (SO := noO) (T := ty) mixed ty_ok zel ysh Try.func42 (c := Try.f42.body.getD .skip) (by kernel_rfl) (fun xs pins hp _ => ?_)
 unfold zlh at hp ⊢
 split at hp
 ·rename_i xs f _
  obtain ⟨hL,rs,rfl⟩ := hp
  rw [List.length_map] at hL
  have hl4 : (rs.map rv).length = rs.length := by simp
  by_cases hz : rs.length = 0
  ·obtain rfl : rs = [] := List.eq_nil_of_length_eq_zero hz
   refine ⟨by simp,zze,by kernel_rfl,?_⟩
   unfold Try.f42
   simp only [go_sem,zac,↓reduceIte,lcT,ty,noS,zze,zjy,hl4]
   repeat (refine And.intro (by omega) ?_)
   intro b
   refine ⟨fun hb => ?_,fun hb => ?_⟩
   ·refine ⟨_,zdf 2 (.sg 6 [] false) (fun w loc v h => ydk 6 h),?_⟩
    simp only [go_sem,zac,↓reduceIte,lcT,ty,noS,zow,cond_true,cond_false]
   ·refine ⟨_,zdf 2 (.sg 6 [] false) (fun w loc v h => ydk 6 h),?_⟩
    simp only [go_sem,zac,↓reduceIte,lcT,ty,noS,zow,cond_true,cond_false]
  ·refine ⟨by simp,zvr,by kernel_rfl,?_⟩
   have hem : emp6 (rs.map rv) = false := by cases rs with | nil => simp at hz | cons _ _ => rfl
   have htop : rs.length ≤ top := by unfold top; omega
   unfold Try.f42
   simp only [go_sem,zac,↓reduceIte,lcT,ty,noS,zvr,zjy,hl4]
   repeat (refine And.intro (by omega) ?_)
   intro b hb
   obtain rfl : b = false := by cases b with | false => rfl | true => exact absurd (hb rfl) hz
   simp only [go_sem,zac,↓reduceIte,lcT,ty,noS,zvr,zjy,hl4,hem,cond_false]
   refine ⟨htop,_,Weak.refl _,?_⟩
   simp only [go_sem,zac,↓reduceIte,lcT,ty,noS,hl4,hem,cond_false,zau]
 ·exact hp.elim
set_option maxHeartbeats 2000000 in
theorem ybl : zol Try.prog 68 ztf := by
 refine zqi (S := noS) (SO := zwg) (T := ty) mixed ty_ok zel yry Try.func68 (c := Try.f68.body.getD .skip) (by kernel_rfl) (fun xs pins hp => ?_)
 unfold ztf at hp ⊢
 split at hp
 ·rename_i n id now g ys b c p e s xs f es
  obtain ⟨rfl,⟨hn,rfl,hL⟩,⟨rs,rfl⟩,hm⟩ := hp
  obtain ⟨M,hM⟩ : ∃ M,es.map ukv = M := ⟨_,rfl⟩
  rw [List.length_map] at hL hn
  refine ⟨by simp,zer,by kernel_rfl,?_⟩
  have hl4 : (rs.map rv).length = rs.length := by simp
  have dpos : decide (0 < rs.length) = true := decide_eq_true hn
  obtain ⟨A,hA⟩ : ∃ A,goB M b now g = A := ⟨_,rfl⟩
  unfold Try.f68
  simp only [go_sem,zac,↓reduceIte,lcT,ty,noS,zwg,zer,hl4,zam,hM,hA]
  refine zfd ⟨fun m σ => ∃ i : Nat,m = rs.length - i ∧ i ≤ rs.length ∧ zle A rs 0 = zle A (rs.drop i) i ∧
    σ = ⟨[.ms 0 6 0 rs.length,.fn 39 [.rf 1 6 0 0,.rf 2 1 0 0,.cp [.w (.int .i64 now)],.cp [.w (.int .i64 g)]],.junk,.junk,.junk,.junk,.junk,.w (.int .i64 rs.length),.w (.int .i64 i),.junk,.junk,.junk,.junk,.junk,.junk,.junk,.junk,.junk,.junk],
     [(0,.g 6 (rs.map rv)),(1,.g 6 [.agg [.w (.int .i64 b),.w (.int .i64 c),.w (.int .i64 p),.w (.int .i64 e),.w (.int .i64 s),.sg 6 xs f]]),(2,.g 1 [.rf 3 0 0 0]),(3,.o (.mp es))],4⟩,?_,?_⟩
  ·refine ⟨_,_,zaf [0,1,2,3] rfl rfl rfl ?_ ?_,0,rfl,by omega,by rw [List.drop_zero]; rfl,rfl⟩
   ·simp only [ssT,zai,zaj,setSlot,gOf,AV.ren,renL,Blk.ren,Ax.look,Ax.put,reduceCtorEq,↓reduceIte,Nat.reduceEqDiff,Nat.reduceLT,Nat.reduceAdd,List.length_append,List.length_cons,List.length_nil,Option.some.injEq]; try simp
   ·simp only [ssT,zai,zaj,setSlot,gOf,AV.ren,renL,Blk.ren,Ax.look,Ax.put,reduceCtorEq,↓reduceIte,Nat.reduceEqDiff,Nat.reduceLT,Nat.reduceAdd,List.length_append,List.length_cons,List.length_nil,Option.some.injEq,zcc]
  ·rintro m σ ⟨i,rfl,hi,hinv,rfl⟩
   by_cases hil : i < rs.length
   ·have e1 : ((i : Int) + 1 + 9223372036854775808) % 18446744073709551616 - 9223372036854775808 = ((i + 1 : Nat) : Int) := by omega
    have d1 : decide ((i : Int) < rs.length) = true := decide_eq_true (by omega)
    have hs1 := zdj rv rs i hil
    have hdr : rs.drop i = rs[i] :: rs.drop (i + 1) := List.drop_eq_getElem_cons hil
    obtain ⟨P,hP⟩ : ∃ P,rs[i] = P := ⟨_,rfl⟩
    rw [hP] at hs1 hdr
    simp only [rv] at hs1
    rw [hdr] at hinv
    obtain ⟨d,t,k,key,dd,val⟩ := P
    have hAP : (!zjw M b ⟨d,t,k,key,dd,val⟩ now g) = A ⟨d,t,k,key,dd,val⟩ := by rw [← hA]; rfl
    cases hap : A ⟨d,t,k,key,dd,val⟩ with
    | true =>
     have hv : zle A rs 0 = i := by rw [hinv]; unfold zle; rw [if_pos hap]
     simp only [go_sem,zac,↓reduceIte,lcT,ty,noS,zwg,zer,ziw,hl4,dpos,hn,d1,hs1,hm,hM,hAP,hap,hv,zam,hA,Int.toNat_natCast]
     repeat (refine And.intro (by omega) ?_)
     refine ⟨_,Weak.refl _,?_⟩
     simp only [go_sem,zac,↓reduceIte,lcT,ty,noS,zer,hl4,dpos,hn,hv,zam,hA,zau,cond_true,zcc]
     refine ⟨_,Weak.refl _,?_⟩
     simp only [go_sem,zac,↓reduceIte,lcT,ty,noS,zer,hl4,dpos,hn,hv,zam,hA,zau,cond_true,zcc]
    | false =>
     have hv : zle A rs 0 = zle A (rs.drop (i + 1)) ((i + 1 : Nat) : Int) := by
      rw [hinv]; rw [zle,hap]; simp
     simp only [go_sem,zac,↓reduceIte,lcT,ty,noS,zwg,zer,ziw,hl4,dpos,hn,d1,hs1,hm,hM,hAP,hap,e1,Int.toNat_natCast]
     repeat (refine And.intro (by omega) ?_)
     refine ⟨rs.length - (i + 1),_,by omega,zaf [0,1,2,3] rfl rfl rfl ?_ ?_,i + 1,rfl,by omega,hv,rfl⟩
     ·simp only [ssT,zai,zaj,setSlot,gOf,AV.ren,renL,Blk.ren,Ax.look,Ax.put,reduceCtorEq,↓reduceIte,Nat.reduceEqDiff,Nat.reduceLT,Nat.reduceAdd,List.length_append,List.length_cons,List.length_nil,Option.some.injEq]
     ·simp only [ssT,zai,zaj,setSlot,gOf,AV.ren,renL,Blk.ren,Ax.look,Ax.put,reduceCtorEq,↓reduceIte,Nat.reduceEqDiff,Nat.reduceLT,Nat.reduceAdd,List.length_append,List.length_cons,List.length_nil,Option.some.injEq,zcc]
   ·have d1 : decide ((i : Int) < rs.length) = false := decide_eq_false (by omega)
    have hdr : rs.drop i = [] := List.drop_eq_nil_of_le (by omega)
    rw [hdr] at hinv
    have hv : zle A rs 0 = -1 := hinv
    simp only [go_sem,zac,↓reduceIte,lcT,ty,noS,zwg,zer,hl4,d1,hv,zam,hA]
    refine ⟨_,Weak.refl _,?_⟩
    simp only [go_sem,zac,↓reduceIte,lcT,ty,noS,zer,hl4,dpos,hn,hv,zam,hA,zau,cond_true,zcc]
    refine ⟨_,Weak.refl _,?_⟩
    simp only [go_sem,zac,↓reduceIte,lcT,ty,noS,zer,hl4,dpos,hn,hv,zam,hA,zau,cond_true,zcc]
 ·rename_i f0 id now g b c p e s xs f es
  obtain rfl := hp
  refine ⟨by simp,zer,by kernel_rfl,?_⟩
  have z0 : decide ((0 : Int) < ((0 : Nat) : Int)) = false := rfl
  unfold Try.f68
  simp only [go_sem,zac,↓reduceIte,lcT,ty,noS,zwg,zer]
  refine yrp 1 ?_
  simp only [go_sem,zac,↓reduceIte,lcT,ty,noS,zwg,zer,z0,ysy,ygo,ypd,ysz]
  try refine ⟨_,Weak.refl _,?_⟩
  try simp only [go_sem,zac,↓reduceIte,lcT,ty,noS]
 ·exact hp.elim
end
end Go.Proofs.Ytebacgkeoefnkaa
namespace Go.Proofs.Ytebacgkeoefnkaa
open Ax
theorem zqn (A : Rec → Bool) : ∀ (rs : List Rec) (k : Int),(zle A rs k = -1 ∧ rs.filter (fun r => !A r) = rs) ∨ ∃ (i : Nat) (h : i < rs.length),zle A rs k = k + i ∧ (rs.take i).filter (fun r => !A r) = rs.take i ∧ A rs[i] = true
 | [],_ => .inl ⟨rfl,rfl⟩
 | r :: rs,k => by
  unfold zle
  cases h : A r with
  | true => exact .inr ⟨0,by simp,by simp,by simp,h⟩
  | false =>
   rcases zqn A rs (k + 1) with ⟨h1,h2⟩ | ⟨i,hi,h1,h2,h3⟩
   ·refine .inl ⟨by simpa using h1,?_⟩
    rw [List.filter_cons,h]
    simp only [Bool.not_false,if_true,h2]
   ·refine .inr ⟨i + 1,by simp; omega,?_,?_,by simpa using h3⟩
    ·simp only [Bool.false_eq_true,if_false]; rw [h1]; omega
    ·rw [List.take_succ_cons,List.filter_cons,h]
     simp only [Bool.not_false,if_true,h2]
theorem zsq (r : Rec) : ∀ (cs : List Rec) (w : Nat),w < cs.length → setSlot (cs.map rv) w (rv r) = (cs.set w r).map rv
 | x :: cs,0,_ => rfl
 | x :: cs,w + 1,h => by
  show rv x :: setSlot (cs.map rv) w (rv r) = rv x :: (cs.set w r).map rv
  rw [zsq r cs w (by simpa using h)]
def zR : Rec := ⟨0,0,false,[],false,[]⟩
def zqy : zas
 | [.ms 0 6 0 n,.fn id [.rf 1 6 0 0,.rf 2 1 0 0,.cp [.w (.int .i64 now)],.cp [.w (.int .i64 g)]]],[.g 6 ys,.g 6 [.agg [.w (.int .i64 b),.w (.int .i64 c),.w (.int .i64 p),.w (.int .i64 e),.w (.int .i64 s),.sg 6 xs f]],.g 1 [.rf 3 0 0 0],.o (.mp es)] =>
   ⟨id = 39 ∧ (0 < n ∧ n = ys.length ∧ n ≤ 1000000) ∧ (∃ rs : List Rec,ys = rs.map rv) ∧ ∃ m,es = kvA m,.sg 6 (((ys.map rrec).filter (fun r => !goB (es.map ukv) b now g r)).map rv) false,[gone,.g 6 [.agg [.w (.int .i64 b),.w (.int .i64 c),.w (.int .i64 p),.w (.int .i64 e),.w (.int .i64 s),.sg 6 xs f]],.g 1 [.rf 3 0 0 0],.o (.mp es)]⟩
 | [.sg 6 [] f0,.fn id [.rf 0 6 0 0,.rf 1 1 0 0,.cp [.w (.int .i64 now)],.cp [.w (.int .i64 g)]]],[.g 6 [.agg [.w (.int .i64 b),.w (.int .i64 c),.w (.int .i64 p),.w (.int .i64 e),.w (.int .i64 s),.sg 6 xs f]],.g 1 [.rf 2 0 0 0],.o (.mp es)] =>
   ⟨id = 39,.sg 6 [] f0,[.g 6 [.agg [.w (.int .i64 b),.w (.int .i64 c),.w (.int .i64 p),.w (.int .i64 e),.w (.int .i64 s),.sg 6 xs f]],.g 1 [.rf 2 0 0 0],.o (.mp es)]⟩
 | _,_ => zcj
def zkk (f : FuncId) : Option zas :=
 match f with
 | 39 => some ziw
 | 68 => some ztf
 | _ => none
theorem yow : FnsO Try.prog zkk := by
 intro f s h
 unfold zkk at h
 split at h
 ·injection h with h; subst h; exact ⟨⟨_,Try.func39,by kernel_rfl,by kernel_rfl⟩,zog⟩
 ·injection h with h; subst h; exact ⟨⟨_,Try.func68,by kernel_rfl,by kernel_rfl⟩,ybl⟩
 ·cases h
def zgm : zlp := fun id => match id with
 | 1 => .opn [] 2
 | 8 => .opn [] 2
 | _ => .std
section
set_option maxRecDepth 100000
set_option maxHeartbeats 4000000 in
theorem ycc : zol Try.prog 41 zqy := by
 refine zqi (S := noS) (SO := zkk) (T := ty) mixed ty_ok zel yow Try.func41 (c := Try.f41.body.getD .skip) (by kernel_rfl) (fun xs pins hp => ?_)
 unfold zqy at hp ⊢
 split at hp
 ·rename_i n id now g ys b c p e s xs f es
  obtain ⟨rfl,⟨hn,rfl,hL⟩,⟨rs,rfl⟩,hm⟩ := hp
  obtain ⟨M,hM⟩ : ∃ M,es.map ukv = M := ⟨_,rfl⟩
  rw [List.length_map] at hL hn
  refine ⟨by simp,zgm,by kernel_rfl,?_⟩
  have hl4 : (rs.map rv).length = rs.length := by simp
  have dpos : decide (0 < rs.length) = true := decide_eq_true hn
  have hx : ∃ qs : List Rec,rs.map rv = qs.map rv := ⟨rs,rfl⟩
  obtain ⟨A,hA⟩ : ∃ A,goB M b now g = A := ⟨_,rfl⟩
  have hA2 : ∀ r,(!zjw M b r now g) = A r := fun r => by rw [← hA]; rfl
  have hA3 : (fun r => !goB M b now g r) = fun r => !A r := by rw [hA]
  rw [hM,zam,hA3]
  obtain ⟨K,hK⟩ : ∃ K,(fun r => !A r) = K := ⟨_,rfl⟩
  have hKA : ∀ r,K r = !A r := fun r => by rw [← hK]
  have D := zqn A rs 0
  rw [hK] at D ⊢
  unfold Try.f41
  rcases D with ⟨hF,hfl⟩ | ⟨i,hi,hF,htk,hAi⟩
  ·have dF : decide (zle A rs 0 = -1) = true := decide_eq_true hF
   simp only [go_sem,zac,↓reduceIte,lcT,ty,noS,zkk,zgm,zau,zcc,cond_true,ztf,hl4,dpos,hn,hx,hm,hM,zam,hA,dF,hfl]
   repeat (refine And.intro (by omega) ?_)
   have hdle : decide (0 + rs.length ≤ (rs.map rv).length) = true := decide_eq_true (by simp)
   have htk : (rs.map rv).take rs.length = rs.map rv := List.take_of_length_le (by simp)
   refine ⟨_,zpa 0 6 4 (rs.map rv) rfl (zau rs) (by simp [slot,AV.ids]),?_⟩
   simp only [fgL,fgH,AV.fg,Blk.fg,Nat.reduceBEq,cond_true,cond_false,hdle,Bool.and_true,beq_self_eq_true,Bool.true_and,List.drop_zero,htk]
   simp only [go_sem,zac,↓reduceIte,lcT,ty,noS,hfl,zam,zau,zcc,cond_true]
  ·have hF : zle A rs 0 = (i : Int) := by rw [hF]; omega
   have dF : decide ((i : Int) = -1) = false := decide_eq_false (by omega)
   have e0 : ((i : Int) + 1 + 9223372036854775808) % 18446744073709551616 - 9223372036854775808 = ((i + 1 : Nat) : Int) := by omega
   simp only [go_sem,zac,↓reduceIte,lcT,ty,noS,zkk,zgm,zau,zcc,cond_true,ztf,hl4,dpos,hn,hx,hm,hM,zam,hA,hF,dF,e0]
   repeat (refine And.intro (by omega) ?_)
   refine zfd ⟨fun m σ => ∃ (j w : Nat) (cs : List Rec),m = rs.length - j ∧ (w < j ∧ j ≤ rs.length) ∧ cs.length = rs.length ∧ cs.take w = (rs.take j).filter K ∧ cs.drop j = rs.drop j ∧
     σ = ⟨[.ms 0 6 0 rs.length,.fn 39 [.rf 1 6 0 0,.rf 2 1 0 0,.cp [.w (.int .i64 now)],.cp [.w (.int .i64 g)]],.junk,.junk,.junk,.w (.int .i64 w),.w (.int .i64 j),.junk,.junk,.junk,.junk,.junk,.junk,.junk,.junk,.junk,.junk,.junk,.junk,.junk,.junk,.junk,.junk,.junk,.junk,.junk,.junk,.junk,.junk,.junk,.junk,.junk,.junk,.junk,.junk,.junk,.junk,.junk,.junk,.junk,.junk,.junk],
      [(0,.g 6 (cs.map rv)),(1,.g 6 [.agg [.w (.int .i64 b),.w (.int .i64 c),.w (.int .i64 p),.w (.int .i64 e),.w (.int .i64 s),.sg 6 xs f]]),(2,.g 1 [.rf 3 0 0 0]),(3,.o (.mp es))],4⟩,?_,?_⟩
   ·refine ⟨_,_,zaf [0,1,2,3] rfl rfl rfl ?_ ?_,i + 1,i,rs,rfl,by omega,rfl,?_,rfl,rfl⟩
    ·simp only [ssT,zai,zaj,setSlot,gOf,AV.ren,renL,Blk.ren,Ax.look,Ax.put,reduceCtorEq,↓reduceIte,Nat.reduceEqDiff,Nat.reduceLT,Nat.reduceAdd,List.length_append,List.length_cons,List.length_nil,Option.some.injEq]; try simp
    ·simp only [ssT,zai,zaj,setSlot,gOf,AV.ren,renL,Blk.ren,Ax.look,Ax.put,reduceCtorEq,↓reduceIte,Nat.reduceEqDiff,Nat.reduceLT,Nat.reduceAdd,List.length_append,List.length_cons,List.length_nil,Option.some.injEq,zcc]
    ·rw [List.take_succ_eq_append_getElem hi,List.filter_append,htk]
     simp [hKA,hAi]
   ·rintro m σ ⟨j,w,cs,rfl,⟨hwj,hj⟩,hcl,htw,hdj,rfl⟩
    have hl5 : (cs.map rv).length = rs.length := by simp [hcl]
    by_cases hjl : j < rs.length
    ·have e1 : ((j : Int) + 1 + 9223372036854775808) % 18446744073709551616 - 9223372036854775808 = ((j + 1 : Nat) : Int) := by omega
     have e2 : ((w : Int) + 1 + 9223372036854775808) % 18446744073709551616 - 9223372036854775808 = ((w + 1 : Nat) : Int) := by omega
     have d1 : decide ((j : Int) < rs.length) = true := decide_eq_true (by omega)
     have hjc : j < cs.length := by omega
     have hcj : cs[j] = rs[j] := by
      have h1 : cs.drop j = cs[j] :: cs.drop (j + 1) := List.drop_eq_getElem_cons hjc
      have h2 : rs.drop j = rs[j] :: rs.drop (j + 1) := List.drop_eq_getElem_cons hjl
      rw [h1,h2] at hdj
      injection hdj
     have hs1 := zdj rv cs j hjc
     rw [hcj] at hs1
     have htk1 : (rs.take (j + 1)).filter K = (rs.take j).filter K ++ [rs[j]].filter K := by rw [List.take_succ_eq_append_getElem hjl,List.filter_append]
     have hdj1 : cs.drop (j + 1) = rs.drop (j + 1) := by
      have := congrArg (List.drop 1) hdj
      simpa [List.drop_drop,Nat.add_comm] using this
     obtain ⟨P,hP⟩ : ∃ P,rs[j] = P := ⟨_,rfl⟩
     rw [hP] at hs1 htk1
     simp only [rv] at hs1
     obtain ⟨d,t,k,key,dd,val⟩ := P
     have hAP := hA2 ⟨d,t,k,key,dd,val⟩
     have hKP := hKA ⟨d,t,k,key,dd,val⟩
     cases hap : A ⟨d,t,k,key,dd,val⟩ with
     | true =>
      rw [hap] at hKP
      have hf0 : (rs.take (j + 1)).filter K = (rs.take j).filter K := by rw [htk1]; simp [hKP]
      simp only [go_sem,zac,↓reduceIte,lcT,ty,noS,zkk,zgm,zau,zcc,cond_true,ziw,hl4,hl5,dpos,hn,d1,hs1,hm,hM,hAP,hap,e1,e2,Int.toNat_natCast,Bool.not_true]
      repeat (refine And.intro (by omega) ?_)
      refine ⟨rs.length - (j + 1),_,by omega,zaf [0,1,2,3] rfl rfl rfl ?_ ?_,j + 1,w,cs,rfl,by omega,hcl,by rw [hf0]; exact htw,hdj1,rfl⟩
      ·simp only [ssT,zai,zaj,setSlot,gOf,AV.ren,renL,Blk.ren,Ax.look,Ax.put,reduceCtorEq,↓reduceIte,Nat.reduceEqDiff,Nat.reduceLT,Nat.reduceAdd,List.length_append,List.length_cons,List.length_nil,Option.some.injEq]
      ·simp only [ssT,zai,zaj,setSlot,gOf,AV.ren,renL,Blk.ren,Ax.look,Ax.put,reduceCtorEq,↓reduceIte,Nat.reduceEqDiff,Nat.reduceLT,Nat.reduceAdd,List.length_append,List.length_cons,List.length_nil,Option.some.injEq,zcc]
     | false =>
      rw [hap] at hKP
      have hwc : w < cs.length := by omega
      have hs2 := zdj rv cs w hwc
      simp only [rv] at hs2
      have hd6 : ∀ a b c d e f : AV,List.drop 6 [a,b,c,d,e,f] = [] := fun _ _ _ _ _ _ => rfl
      have hl6 : ∀ a b c d e f : AV,[a,b,c,d,e,f].length = 6 := fun _ _ _ _ _ _ => rfl
      have hss := zsq ⟨d,t,k,key,dd,val⟩ cs w hwc
      simp only [rv] at hss
      have hf0 : (cs.set w ⟨d,t,k,key,dd,val⟩).take (w + 1) = (rs.take (j + 1)).filter K := by
       rw [htk1,← htw,List.take_succ_eq_append_getElem (by simp; exact hwc),List.take_set_of_le (Nat.le_refl _)]
       simp [hKP]
      have hd0 : (cs.set w ⟨d,t,k,key,dd,val⟩).drop (j + 1) = rs.drop (j + 1) := by
       rw [List.drop_set_of_lt (by omega)]; exact hdj1
      simp only [go_sem,zac,↓reduceIte,lcT,ty,noS,zkk,zgm,zau,zcc,cond_true,ziw,hl4,hl5,dpos,hn,d1,hs1,hs2,hd6,hl6,hss,hm,hM,hAP,hap,e1,e2,Int.toNat_natCast,Bool.not_false]
      repeat (refine And.intro (by omega) ?_)
      refine ⟨rs.length - (j + 1),_,by omega,zaf [0,1,2,3] rfl rfl rfl ?_ ?_,j + 1,w + 1,cs.set w ⟨d,t,k,key,dd,val⟩,rfl,by omega,by simp [hcl],hf0,hd0,rfl⟩
      ·simp only [ssT,zai,zaj,setSlot,gOf,AV.ren,renL,Blk.ren,Ax.look,Ax.put,reduceCtorEq,↓reduceIte,Nat.reduceEqDiff,Nat.reduceLT,Nat.reduceAdd,List.length_append,List.length_cons,List.length_nil,Option.some.injEq]
      ·simp only [ssT,zai,zaj,setSlot,gOf,AV.ren,renL,Blk.ren,Ax.look,Ax.put,reduceCtorEq,↓reduceIte,Nat.reduceEqDiff,Nat.reduceLT,Nat.reduceAdd,List.length_append,List.length_cons,List.length_nil,Option.some.injEq,zcc]
    ·have d1 : decide ((j : Int) < rs.length) = false := decide_eq_false (by omega)
     have htj : rs.take j = rs := List.take_of_length_le (by omega)
     rw [htj] at htw
     simp only [go_sem,zac,↓reduceIte,lcT,ty,noS,zkk,zgm,zau,zcc,cond_true,hl4,hl5,d1,zam,hA]
     refine ⟨_,Weak.refl _,?_⟩
     simp only [go_sem,zac,↓reduceIte,lcT,ty,noS,zkk,zgm,zau,zcc,cond_true,hl4,hl5,d1,zam,hA,Int.toNat_natCast]
     repeat (refine And.intro (by omega) ?_)
     have hz : List.take w (cs.map rv) ++ (List.replicate (rs.length - w) (.agg [.w (.int .i64 0),.w (.int .i64 0),.w (.bool false),.str [],.w (.bool false),.str []]) ++ List.drop (w + (rs.length - w)) (cs.map rv)) = (cs.take w ++ List.replicate (rs.length - w) zR).map rv := by
      have h1 : List.drop (w + (rs.length - w)) (cs.map rv) = [] := List.drop_eq_nil_of_le (by simp; omega)
      rw [h1,List.append_nil,List.map_append,List.map_take,List.map_replicate]; rfl
     rw [hz]
     have hwl : (cs.take w).length = w := by rw [List.length_take]; omega
     have hdle : decide (0 + (w - 0) ≤ ((cs.take w ++ List.replicate (rs.length - w) zR).map rv).length) = true := decide_eq_true (by simp; omega)
     have htk : ((cs.take w ++ List.replicate (rs.length - w) zR).map rv).take (w - 0) = (rs.filter K).map rv := by
      rw [← htw,Nat.sub_zero,List.map_append,List.take_left' (by rw [List.length_map,hwl])]
     have hcz := zau (cs.take w ++ List.replicate (rs.length - w) zR)
     generalize (cs.take w ++ List.replicate (rs.length - w) zR).map rv = Z at *
     refine ⟨_,zpa 0 6 4 Z rfl hcz (by simp [slot,AV.ids]),?_⟩
     simp only [fgL,fgH,AV.fg,Blk.fg,Nat.reduceBEq,cond_true,cond_false,hdle,Bool.and_true,beq_self_eq_true,Bool.true_and,List.drop_zero,htk]
     simp only [go_sem,zac,↓reduceIte,lcT,ty,noS,zam,zau,zcc,cond_true]
 ·rename_i f0 id now g b c p e s xs f es
  obtain rfl := hp
  refine ⟨by simp,zgm,by kernel_rfl,?_⟩
  have z0 : decide ((-1 : Int) = -1) = true := rfl
  unfold Try.f41
  simp only [go_sem,coe,zac,↓reduceIte,lcT,ty,noS,zkk,zgm,zau,zcc,cond_true,ztf,z0]
  refine ⟨_,Weak.refl _,?_⟩
  simp only [go_sem,coe,zac,↓reduceIte,lcT,ty,noS,zgm]
 ·exact hp.elim
end
end Go.Proofs.Ytebacgkeoefnkaa
