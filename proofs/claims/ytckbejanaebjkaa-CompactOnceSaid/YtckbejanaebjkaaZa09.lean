/- What the proofs of this seat stand on; it asks nothing. -/
import Derived.Test.YtckbejanaebjkaaZa08
set_option linter.unusedSimpArgs false
set_option linter.unusedVariables false
namespace Go.Proofs.Ytckbejanaebjkaa
namespace Ax
mutual
def AV.fp (id : Nat) (c0 : Value) : AV → AV
 | .agg xs => .agg (fpL id c0 xs)
 | .tup xs => .tup (fpL id c0 xs)
 | .fn f cs => .fn f (fpL id c0 cs)
 | .rf k s i f => bif k == id then (bif s == 1 && (i == 0 && f == 0) then .cp [.w c0] else .rf k s i f) else .rf k s i f
 | x => x
def fpL (id : Nat) (c0 : Value) : List AV → List AV
 | [] => []
 | x :: xs => x.fp id c0 :: fpL id c0 xs
end
theorem zdv (id : Nat) (c0 : Value) : ∀ (xs : List AV),(fpL id c0 xs).length = xs.length ∧ ∀ (j : Nat) (h : j < (fpL id c0 xs).length) (h' : j < xs.length),(fpL id c0 xs)[j] = xs[j].fp id c0
 | [] => ⟨rfl,fun j h => by simp [fpL] at h⟩
 | x :: xs => by
   obtain ⟨h1,h2⟩ := zdv id c0 xs
   refine ⟨by simp [fpL,h1],fun j h h' => ?_⟩
   cases j with
   | zero => rfl
   | succ j => exact h2 j (by simpa [fpL] using h) (by simpa using h')
theorem fp_leaf {id : Nat} {c0 : Value} {x : AV} (h : x.leaf = true) : (x.fp id c0).leaf = true := by
 cases x <;> first | exact h | (simp [AV.leaf] at h; done) | skip
 simp only [AV.fp]
 cases (_ == id) with
 | false => rfl
 | true =>
   simp only [cond_true]
   cases (_ && _ : Bool) <;> rfl
theorem fp_R {w : World} {loc : Loc} {id : Nat} {c0 : Value} (hor : ∃ b,loc.m id = .here b ∧ b < w.heap.size ∧ Lies w loc (.g 1 [.w c0]) b ∧ (∀ k,loc.m k = .here b → k = id) ∧ ¬ loc.bad b) {x : AV} {v : Value} (h : R w loc x v) : R w (loc.set id .dead) (x.fp id c0) v := by
 have hM : ∀ c,Mut (loc.set id .dead) c → Mut loc c := by
   rintro c (h | ⟨k,h⟩)
   · exact .inl h
   · by_cases hk : k = id
     · subst hk; rw [Loc.set_same] at h; cases h
     · rw [Loc.set_other _ _ hk] at h; exact .inr ⟨k,h⟩
 have hC : ∀ {a cs},Cells w loc a cs → Cells w (loc.set id .dead) a cs := fun h => h.move (fun b _ hm => hM b hm)
 induction h with
 | w v h => exact .w v h
 | str bs => exact .str bs
 | agg xs cs hl hx _ ih =>
   obtain ⟨h1,h2⟩ := zdv id c0 xs
   refine .agg _ cs (by rw [h1,hl]) (fun j hj => ?_) (fun j a b => ?_)
   · rw [h2 j hj (by rw [← h1]; exact hj)]; exact fp_leaf (hx j _)
   · rw [h2 j a (by rw [← h1]; exact a)]; exact ih j _ b
 | tup xs cs hl _ ih =>
   obtain ⟨h1,h2⟩ := zdv id c0 xs
   refine .tup _ cs (by rw [h1,hl]) (fun j a b => ?_)
   rw [h2 j a (by rw [← h1]; exact a)]; exact ih j _ b
 | sb bs full a cap hd hc => exact .sb bs full a cap hd (hC hc)
 | si ns full a cap hd hc => exact .si ns full a cap hd (hC hc)
 | sg s xs full a cap cs hd hs hc hl hx h _ => exact .sg s xs full a cap cs hd hs (hC hc) hl hx (fun j a b => (h j a b).move (fun b _ hm => hM b hm) (hx j a).2)
 | cp ls a cs hc hn hl hx h _ => exact .cp ls a cs (hC hc) hn hl hx (fun j a b => (h j a b).move (fun b _ hm => hM b hm) (hx j a).2)
 | ms k s off len v h =>
   refine .ms _ _ _ _ _ ?_
   by_cases hk : k = id
   · subst hk; unfold Owns; rw [Loc.set_same]; exact h.one
   · unfold Owns at h ⊢; rw [Loc.set_other _ _ hk]; exact h
 | rf k s i f v h =>
   have hkeep : R w (loc.set id .dead) (.rf k s i f) v := by
     refine .rf _ _ _ _ _ ?_
     by_cases hk : k = id
     · subst hk; unfold Points; rw [Loc.set_same]; exact h.one
     · unfold Points at h ⊢; rw [Loc.set_other _ _ hk]; exact h
   simp only [AV.fp]
   by_cases hk : k = id
   · subst hk
     simp only [beq_self_eq_true,cond_true]
     cases hc : (s == 1 && (i == 0 && f == 0)) with
     | false => exact hkeep
     | true =>
       simp only [cond_true]
       simp only [Bool.and_eq_true,beq_iff_eq] at hc
       obtain ⟨rfl,rfl,rfl⟩ := hc
       obtain ⟨b,hb,hlt,hl,hinj,hnb⟩ := hor
       unfold Points at h
       rw [hb] at h
       subst h
       rw [zbf (by decide)]
       obtain ⟨cur,e,fz,hh,hf,hone,hfl,hr⟩ := hl.lies
       have hsz : 0 < cur.size := by simp [Blk.flat,AV.leaves] at hfl; omega
       have h0 := (hr 0 (by simp [Blk.flat,AV.leaves]) hsz).2
       have h0 : R w loc (.w c0) cur[0] := h0
       have hwv := h0.wv
       refine .cp [.w c0] ⟨b,0 * 1 + 0,none⟩ [c0] ⟨.inr ⟨b,0,rfl,?_,hlt,fun j hj => ?_⟩⟩ (by simp) rfl (fun j hj => ?_) (fun j x y => ?_)
       · rintro (hq | ⟨i,hq⟩)
         · exact hnb hq
         · by_cases hk : i = k
           · subst hk; rw [Loc.set_same] at hq; cases hq
           · rw [Loc.set_other _ _ hk] at hq; exact hk (hinj i hq)
       · simp at hj
         subst hj
         simp [World.cell?,hh,hsz,hwv]
       · simp at hj
         subst hj
         simp [AV.leaf,AV.closed]
         rw [← hwv]; exact hone 0 hsz
       · simp at x
         subst x
         cases h0 with
         | w v h => exact .w _ h
   · have : (k == id) = false := by simpa using hk
     rw [this]; exact hkeep
 | fn f caps cs hl _ ih =>
   obtain ⟨h1,h2⟩ := zdv id c0 caps
   refine .fn f _ cs (by rw [h1,hl]) (fun j a b => ?_)
   rw [h2 j a (by rw [← h1]; exact a)]; exact ih j _ b
 | junk v => exact .junk v
def Blk.fp (id : Nat) (c0 : Value) : Blk → Blk
 | .g s xs => .g s (fpL id c0 xs)
 | .b cs => .b cs
 | .i ns => .i ns
 | .o x => .o x
theorem odd_fp {id : Nat} {c0 : Value} {b : Blk} : (b.fp id c0).odd = b.odd := by cases b <;> rfl
def fpH (id : Nat) (c0 : Value) : Heap → Heap
 | [] => []
 | p :: r => bif p.1 == id then fpH id c0 r else (p.1,p.2.fp id c0) :: fpH id c0 r
theorem leaves_fp (id : Nat) (c0 : Value) (x : AV) : (x.fp id c0).leaves = fpL id c0 x.leaves := by
 cases x <;> first | rfl | skip
 simp only [AV.fp,AV.leaves,fpL]
 cases (_ == id) with
 | false => rfl
 | true =>
   simp only [cond_true]
   cases (_ && _ : Bool) <;> rfl
theorem fpL_append (id : Nat) (c0 : Value) : ∀ (xs ys : List AV),fpL id c0 (xs ++ ys) = fpL id c0 xs ++ fpL id c0 ys
 | [],_ => rfl
 | x :: xs,ys => by simp [fpL,fpL_append id c0 xs ys]
theorem flat_fp (id : Nat) (c0 : Value) (b : Blk) : (b.fp id c0).flat = fpL id c0 b.flat := by
 cases b with
 | b cs =>
   simp only [Blk.fp,Blk.flat]
   induction cs with
   | nil => rfl
   | cons c r ih => simp only [List.map_cons,fpL,AV.fp]; rw [← ih]
 | o x => rfl
 | i ns =>
   simp only [Blk.fp,Blk.flat]
   induction ns with
   | nil => rfl
   | cons c r ih => simp only [List.map_cons,fpL,AV.fp]; rw [← ih]
 | g s xs =>
   simp only [Blk.fp,Blk.flat]
   induction xs with
   | nil => rfl
   | cons c r ih => simp only [fpL,List.flatMap_cons,fpL_append]; rw [ih,leaves_fp]
theorem ok_fp {id : Nat} {c0 : Value} {b : Blk} (h : b.ok) : (b.fp id c0).ok := by
 cases b with
 | g s xs =>
   obtain ⟨h1,h2⟩ := h
   refine ⟨h1,fun x hx => ?_⟩
   obtain ⟨j,hj,rfl⟩ := List.getElem_of_mem hx
   obtain ⟨h3,h4⟩ := zdv id c0 xs
   rw [h4 j hj (by rw [← h3]; exact hj),leaves_fp,(zdv id c0 _).1]
   exact h2 _ (List.getElem_mem _)
 | _ => trivial
theorem len_fp {id : Nat} {c0 : Value} {b : Blk} : (b.fp id c0).len = b.len := by
 cases b with
 | g s xs => exact (zdv id c0 xs).1
 | _ => rfl
theorem fpH_get {id : Nat} {c0 : Value} : ∀ {H : Heap} {k : Nat} {b : Blk},look (fpH id c0 H) k = some b → k ≠ id ∧ ∃ c,look H k = some c ∧ b = c.fp id c0
 | [],k,b,h => by simp [fpH,look] at h
 | p :: r,k,b,h => by
   have e : look (p :: r) k = if p.1 = k then some p.2 else look r k := zao r p.1 k p.2
   unfold fpH at h
   by_cases hp : p.1 = id
   · have : (p.1 == id) = true := by simpa using hp
     rw [this] at h
     obtain ⟨h1,c,h2,h3⟩ := fpH_get h
     exact ⟨h1,c,by rw [e,if_neg (by omega)]; exact h2,h3⟩
   · have : (p.1 == id) = false := by simpa using hp
     rw [this] at h
     have e2 : look ((p.1,p.2.fp id c0) :: fpH id c0 r) k = if p.1 = k then some (p.2.fp id c0) else look (fpH id c0 r) k := zao (fpH id c0 r) p.1 k _
     simp only [cond_false] at h
     rw [e2] at h
     split at h
     · rename_i hk
       injection h with h
       exact ⟨by omega,p.2,by rw [e,if_pos hk],h.symm⟩
     · rename_i hk
       obtain ⟨h1,c,h2,h3⟩ := fpH_get h
       exact ⟨h1,c,by rw [e,if_neg hk]; exact h2,h3⟩
theorem slot_fpL {id : Nat} {c0 : Value} : ∀ (sl : List AV) (t : Nat),slot (fpL id c0 sl) t = (slot sl t).fp id c0
 | [],t => rfl
 | x :: xs,0 => rfl
 | x :: xs,t + 1 => slot_fpL xs t
theorem rel_fp {w0 : World} {E : Nat → Prop} {B : Bs} {w : World} {loc : Loc} {a : Act} {sl : List AV} {H : Heap} {nx : Nat} (id : Nat) (c0 : Value) (hl : look H id = some (.g 1 [.w c0])) (hB : Base w0 B w loc) (hr : Rel' w0 E loc ⟨sl,H,nx⟩ a w) (hlive : loc.m id ≠ .free) : Rel w0 E B ⟨fpL id c0 sl,fpH id c0 H,nx⟩ a w := by
 have hblk := hr.heap id _ hl
 have hor : ∃ b,loc.m id = .here b ∧ b < w.heap.size ∧ Lies w loc (.g 1 [.w c0]) b ∧ (∀ k,loc.m k = .here b → k = id) ∧ ¬ loc.bad b := by
   unfold BlkR at hblk
   cases e : loc.m id with
   | free => exact (hlive e).elim
   | dead => rw [e] at hblk; exact hblk.elim
   | nil => rw [e] at hblk; exact absurd hblk.2 (by simp [Blk.len])
   | here b =>
     rw [e] at hblk
     have h1 := hr.env.lies id b e
     refine ⟨b,rfl,h1.1,hblk.2,fun k hk => hr.env.inj k id b hk e,fun hb => ?_⟩
     have h2 := hr.env.bad b hb
     rcases h1.2 with h3 | h3
     · omega
     · exact h2.2 h3
 have hset : ∀ {k c},(loc.set id .dead).m k = .here c → loc.m k = .here c := by
   intro k c h
   by_cases hk : k = id
   · subst hk; rw [Loc.set_same] at h; cases h
   · rwa [Loc.set_other _ _ hk] at h
 refine ⟨loc.set id .dead,⟨hB.1,hB.2.1,fun k hk => ?_⟩,⟨?_,fun t => ?_,?_,⟨hr.env.os,hr.env.tape,hr.env.output,hr.env.size,hr.env.same,fun i j b h1 h2 => hr.env.inj i j b (hset h1) (hset h2),fun i b h1 => hr.env.lies i b (hset h1),hr.env.bad⟩,?_,hr.defers,?_⟩⟩
 · by_cases hne : k = id
   · subst hne; left; rw [Loc.set_same]
   · rw [Loc.set_other _ _ hne]; exact hB.2.2 k hk
 · rw [hr.size]; exact ((zdv id c0 sl).1).symm
 · simp only; rw [slot_fpL]; exact fp_R hor (hr.slots t)
 · intro k b hk
   obtain ⟨h1,c,h2,rfl⟩ := fpH_get hk
   have h3 := hr.heap k c h2
   unfold BlkR at h3 ⊢
   rw [Loc.set_other _ _ h1]
   split
   · trivial
   · rename_i e; rw [e] at h3; exact h3
   · rename_i e; rw [e] at h3; exact ⟨ok_fp h3.1,by rw [len_fp]; exact h3.2⟩
   · rename_i d e
     rw [e] at h3
     rcases zbg c with ⟨x,hx,rfl⟩ | hodd
     · exact ⟨ok_fp h3.1,.mkO (Thing.move (loc := loc) (fun c _ hM => hM.imp (fun h => h) (fun ⟨k,h⟩ => ⟨k,hset h⟩)) (h3.2.is hx)) rfl⟩
     obtain ⟨cur,el,fi,g1,g2,g3,g4,g5⟩ := h3.2.lies hodd
     have hlen : (c.fp id c0).flat.length = c.flat.length := by rw [flat_fp,(zdv id c0 _).1]
     refine ⟨ok_fp h3.1,.mkC ⟨cur,el,fi,g1,g2,g3,by omega,fun j x y => ?_⟩ (odd_fp.trans hodd)⟩
     have h6 := g5 j (by omega) y
     have e : (c.fp id c0).flat[j] = (c.flat[j]'(by omega)).fp id c0 := by
       have := (zdv id c0 c.flat).2 j (by rw [(zdv id c0 _).1]; omega) (by omega)
       rw [← this]
       congr 1
       exact flat_fp id c0 c
     rw [e]
     exact ⟨fp_leaf h6.1,fp_R hor h6.2⟩
 · intro k hk
   by_cases hne : k = id
   · exact (hlive (hne ▸ hr.fresh k hk)).elim
   · rw [Loc.set_other _ _ hne]; exact hr.fresh k hk
 · intro k b hk
   obtain ⟨h1,c,h2,rfl⟩ := fpH_get hk
   exact hr.low k c h2
theorem weak_fp {sl : List AV} {H : Heap} {nx : Nat} (id i : Nat) (c0 : Value) (hl : look H id = some (.g 1 [.w c0])) (hi : id ∈ (slot sl i).ids) : Weak ⟨sl,H,nx⟩ ⟨fpL id c0 sl,fpH id c0 H,nx⟩ := by
 rintro w0 E B a w ⟨loc,hB,hr⟩
 exact rel_fp id c0 hl hB hr (zcu _ _ (hr.slots i) hi)
end Ax
end Go.Proofs.Ytckbejanaebjkaa
namespace Go.Proofs.Ytckbejanaebjkaa
open Ax
def wrI (a : Int) : Int := (a + 9223372036854775808) % 18446744073709551616 - 9223372036854775808
def lateB (t now g : Int) : Bool := decide (0 ≤ now) && (decide (0 ≤ t) && decide (max g 0 < wrI (now - t)))
def zex (m : KM) (b : Int) (r : Rec) (now g : Int) : Bool := !r.k || (decide ((gtK m r.key).getD 0 = offI b r.d) && !(r.dd && lateB r.t now g))
def late17S : zar
 | [.agg [.w (.int .i64 d),.w (.int .i64 t),.w (.bool k),.str key,.w (.bool dd),.str val],.w (.int .i64 now),.w (.int .i64 g)],[] => ⟨True,.w (.bool (lateB t now g)),[]⟩
 | _,_ => zci
def stays17S : zar
 | [.agg [.w (.int .i64 b),.w (.int .i64 c),.w (.int .i64 p),.w (.int .i64 e),.w (.int .i64 s),.sg 6 xs f],.agg [.w (.int .i64 d),.w (.int .i64 t),.w (.bool k),.str key,.w (.bool dd),.str val],.rf 0 0 0 0,.w (.int .i64 now),.w (.int .i64 g)],[.o (.mp es)] =>
     ⟨∃ m,es = kvA m,.w (.bool (zex (es.map ukv) b ⟨d,t,k,key,dd,val⟩ now g)),[.o (.mp es)]⟩
 | _,_ => zci
section
set_option maxRecDepth 100000
theorem late17_sound : zbm Try.prog 28 late17S := by
 refine zau (S := noS) (T := ty) zcj ty_ok zeh Try.func28 (c := Try.f28.body.getD .skip) (by kernel_rfl) (by kernel_rfl) (fun xs pins hp _ => ?_)
 unfold late17S at hp ⊢
 split at hp
 · rename_i d t k key dd val now g _
   refine ⟨by simp,?_⟩
   have hw : (now - t + 9223372036854775808) % 18446744073709551616 - 9223372036854775808 = wrI (now - t) := rfl
   have hm : (if g > 0 then g else 0) = max g 0 := by split <;> omega
   have hm2 : (if 0 > g then 0 else g) = max g 0 := by split <;> omega
   obtain ⟨W,hW⟩ : ∃ W,wrI (now - t) = W := ⟨_,rfl⟩
   obtain ⟨V,hV⟩ : ∃ V,max g 0 = V := ⟨_,rfl⟩
   rw [hW] at hw
   rw [hV] at hm hm2
   unfold Try.f28
   by_cases h1 : 0 ≤ now <;> by_cases h2 : 0 ≤ t <;> by_cases h3 : V < W
   all_goals
     simp only [go_sem,zaa,Nat.reduceAdd,Nat.reduceSub,Nat.reduceMul,Int.reduceToNat,reduceCtorEq,↓reduceIte,Int.reducePow,Nat.reducePow,Int.reduceMod,Nat.reduceLeDiff,Int.reduceLE,Int.reduceNe,Int.reduceEq,Nat.reduceEqDiff,Nat.reduceLT,Nat.reduceBEq,ty,noS,hw,hm,hm2,hV,h1,h2,h3,decide_true,decide_false]
     unfold lateB
     rw [hW,hV]
     simp [h1,h2,h3]
 · exact hp.elim
def Sst17 (f : FuncId) : Option zar :=
 match f with
 | 28 => some late17S
 | _ => none
theorem Sst17_ok : Fns Try.prog Sst17 := by
 intro f s h
 unfold Sst17 at h
 split at h
 · injection h with h; subst h; exact ⟨⟨_,Try.func28,by kernel_rfl,by kernel_rfl⟩,late17_sound⟩
 · cases h
theorem stays17_sound : zbm Try.prog 20 stays17S := by
 refine zau (S := Sst17) (T := ty) zcj ty_ok Sst17_ok Try.func20 (c := Try.f20.body.getD .skip) (by kernel_rfl) (by kernel_rfl) (fun xs pins hp _ => ?_)
 unfold stays17S at hp ⊢
 split at hp
 · rename_i b c p e s xs f d t k key dd val now g es _
   obtain ⟨m,rfl⟩ := hp
   refine ⟨by simp,?_⟩
   rw [ukv_kvA]
   have hof : (b + d + 9223372036854775808) % 18446744073709551616 - 9223372036854775808 = offI b d := rfl
   obtain ⟨O,hO⟩ : ∃ O,offI b d = O := ⟨_,rfl⟩
   rw [hO] at hof
   obtain ⟨L,hL⟩ : ∃ L,lateB t now g = L := ⟨_,rfl⟩
   unfold Try.f20
   cases k with
   | false =>
     have hv : zex m b ⟨d,t,false,key,dd,val⟩ now g = true := rfl
     simp only [go_sem,zaa,Nat.reduceAdd,Nat.reduceSub,Nat.reduceMul,Int.reduceToNat,reduceCtorEq,↓reduceIte,Int.reducePow,Nat.reducePow,Int.reduceMod,Nat.reduceLeDiff,Int.reduceLE,Int.reduceNe,Int.reduceEq,Nat.reduceEqDiff,Nat.reduceLT,Nat.reduceBEq,ty,Sst17,hv,Bool.not_false]
   | true =>
     rcases hx : ixK key m 0 with _ | ⟨j,a⟩
     · have hg : (gtK m key).getD 0 = 0 := by unfold gtK; rw [hx]; rfl
       have hv : zex m b ⟨d,t,true,key,dd,val⟩ now g = (decide (0 = O) && !(dd && L)) := by unfold zex; simp only [hg,hO,hL]; rfl
       by_cases h1 : 0 = O <;> cases dd <;> cases L
       all_goals
         simp only [h1,decide_true,decide_false,Bool.true_and,Bool.false_and,Bool.and_true,Bool.and_false,Bool.not_true,Bool.not_false] at hv
         simp only [go_sem,zaa,Nat.reduceAdd,Nat.reduceSub,Nat.reduceMul,Int.reduceToNat,reduceCtorEq,↓reduceIte,Int.reducePow,Nat.reducePow,Int.reduceMod,Nat.reduceLeDiff,Int.reduceLE,Int.reduceNe,Int.reduceEq,Nat.reduceEqDiff,Nat.reduceLT,Nat.reduceBEq,ty,Sst17,late17S,hv,hof,hL,zfm,hx,mpI_none,h1,decide_true,decide_false,Bool.not_true,Bool.not_false]
     · have hg : (gtK m key).getD 0 = a := by unfold gtK; rw [hx]; rfl
       have hv : zex m b ⟨d,t,true,key,dd,val⟩ now g = (decide (a = O) && !(dd && L)) := by unfold zex; simp only [hg,hO,hL]; rfl
       by_cases h1 : a = O <;> cases dd <;> cases L
       all_goals
         simp only [h1,decide_true,decide_false,Bool.true_and,Bool.false_and,Bool.and_true,Bool.and_false,Bool.not_true,Bool.not_false] at hv
         simp only [go_sem,zaa,Nat.reduceAdd,Nat.reduceSub,Nat.reduceMul,Int.reduceToNat,reduceCtorEq,↓reduceIte,Int.reducePow,Nat.reducePow,Int.reduceMod,Nat.reduceLeDiff,Int.reduceLE,Int.reduceNe,Int.reduceEq,Nat.reduceEqDiff,Nat.reduceLT,Nat.reduceBEq,ty,Sst17,late17S,hv,hof,hL,zfm,hx,mpI_some,h1,decide_true,decide_false,Bool.not_true,Bool.not_false]
 · exact hp.elim
def goes17S : zar
 | [.agg [.w (.int .i64 d),.w (.int .i64 t),.w (.bool k),.str key,.w (.bool dd),.str val],.rf 0 6 0 0,.rf 1 1 0 0,.cp [.w (.int .i64 now)],.cp [.w (.int .i64 g)]],[.g 6 [.agg [.w (.int .i64 b),.w (.int .i64 c),.w (.int .i64 p),.w (.int .i64 e),.w (.int .i64 s),.sg 6 xs f]],.g 1 [.rf 2 0 0 0],.o (.mp es)] =>
     ⟨∃ m,es = kvA m,.w (.bool (!zex (es.map ukv) b ⟨d,t,k,key,dd,val⟩ now g)),[.g 6 [.agg [.w (.int .i64 b),.w (.int .i64 c),.w (.int .i64 p),.w (.int .i64 e),.w (.int .i64 s),.sg 6 xs f]],.g 1 [.rf 2 0 0 0],.o (.mp es)]⟩
 | _,_ => zci
def Sgo17 (f : FuncId) : Option zar :=
 match f with
 | 20 => some stays17S
 | _ => none
theorem Sgo17_ok : Fns Try.prog Sgo17 := by
 intro f s h
 unfold Sgo17 at h
 split at h
 · injection h with h; subst h; exact ⟨⟨_,Try.func20,by kernel_rfl,by kernel_rfl⟩,stays17_sound⟩
 · cases h
def stdPl : XPlan := fun _ => .std
theorem goes17_sound : SoundO Try.prog 22 goes17S := by
 refine fn_soundO (S := Sgo17) (SO := noO) (T := ty) zcj ty_ok Sgo17_ok noO_ok Try.func22 (c := Try.f22.body.getD .skip) (by kernel_rfl) (fun xs pins hp => ?_)
 unfold goes17S at hp ⊢
 split at hp
 · rename_i d t k key dd val now g b c p e s xs f es
   have hp : ∃ m,es = kvA m := hp
   refine ⟨by simp,stdPl,by kernel_rfl,?_⟩
   obtain ⟨V,hV⟩ : ∃ V,zex (es.map ukv) b ⟨d,t,k,key,dd,val⟩ now g = V := ⟨_,rfl⟩
   unfold Try.f22
   simp only [go_sem,zac,Nat.reduceAdd,Nat.reduceSub,Nat.reduceMul,Int.reduceToNat,reduceCtorEq,↓reduceIte,Int.reducePow,Nat.reducePow,Int.reduceMod,Nat.reduceLeDiff,Int.reduceLE,Int.reduceNe,Int.reduceEq,Nat.reduceEqDiff,Nat.reduceLT,Nat.reduceBEq,List.map_cons,List.map_nil,List.toList_toArray,Array.toList_append,Option.toArray_some,Option.toArray_none,Bool.and_self,ty,Sgo17,stays17S,stdPl,hp,hV]
   try (refine ⟨_,Weak.refl _,?_⟩)
   try simp only [go_sem,zac,Nat.reduceAdd,Nat.reduceSub,Nat.reduceMul,Int.reduceToNat,reduceCtorEq,↓reduceIte,Int.reducePow,Nat.reducePow,Int.reduceMod,Nat.reduceLeDiff,Int.reduceLE,Int.reduceNe,Int.reduceEq,Nat.reduceEqDiff,Nat.reduceLT,Nat.reduceBEq,List.map_cons,List.map_nil,List.toList_toArray,Array.toList_append,Option.toArray_some,Option.toArray_none,Bool.and_self,ty,Sgo17,hV]
 · exact hp.elim
end
end Go.Proofs.Ytckbejanaebjkaa
namespace Go.Proofs.Ytckbejanaebjkaa
open Ax
def findI (P : Rec → Bool) : List Rec → Int → Int
 | [],_ => -1
 | r :: rs,i => if P r then i else findI P rs (i + 1)
section
set_option maxRecDepth 100000
set_option maxHeartbeats 1000000 in
end
end Go.Proofs.Ytckbejanaebjkaa
namespace Go.Proofs.Ytckbejanaebjkaa
namespace Ax
theorem zfc {S : zaf} {T : zab} {ops : List Oper} {pl : List (Nat × Nat)} {Q Q' : List AV → Heap → Prop} (hq : ∀ sl H,Q sl H → Q' sl H) : ∀ (l : List Oper) (nm : Nat) (acc : List (Nat × List Nat)) (sl : List AV) (H : Heap),zeb S T ops pl nm acc l sl H Q → zeb S T ops pl nm acc l sl H Q'
 | [],nm,acc,sl,H,h => ⟨h.1,hq sl H h.2⟩
 | o :: r,nm,acc,sl,H,h => by
   unfold zeb at h ⊢
   cases hg : o.guard with
   | none => simp only [hg] at h ⊢; exact ⟨h.1,zfc hq r _ _ _ _ h.2⟩
   | some g =>
     obtain ⟨j,want⟩ := g
     simp only [hg] at h ⊢
     cases hs : guardSlot ops j with
     | none => simp [hs] at h
     | some d =>
       simp only [hs] at h ⊢
       split at h
       · exact ⟨fun e => ⟨(h.1 e).1,zfc hq r _ _ _ _ (h.1 e).2⟩,fun e => zfc hq r _ _ _ _ (h.2 e)⟩
       · exact zfc hq r _ _ _ _ h
       · exact h.elim
theorem aopsO_mono {S SO : zaf} {T : zab} {ops : List Oper} {Q Q' : List AV → Heap → Prop} (hq : ∀ sl H,Q sl H → Q' sl H) : ∀ (k nm : Nat) (l : List Oper) (sl : List AV) (H : Heap),aopsO S SO T ops k nm l sl H Q → aopsO S SO T ops k nm l sl H Q'
 | k,nm,[],sl,H,h => by unfold aopsO at h ⊢; exact hq _ _ h
 | 0,nm,o :: r,sl,H,h => by unfold aopsO at h ⊢; exact ⟨h.1,h.2.1,zcm hq _ _ _ _ h.2.2⟩
 | k + 1,nm,o :: r,sl,H,h => by unfold aopsO at h ⊢; exact ⟨h.1,h.2.1,aopsO_mono hq k _ r _ _ h.2.2⟩
theorem specOp_mono {T : zab} {sl : List AV} {op : Op} {K K' : AV → Prop} (hk : ∀ x,K x → K' x) (h : specOp T sl op K) : specOp T sl op K' := by
 unfold specOp at h ⊢
 repeat' split at h
 all_goals first
   | exact h.elim
   | simp_all
theorem aopsT_mono {S : zaf} {T : zab} {ops : List Oper} {Q Q' : List AV → Heap → Prop} (hq : ∀ sl H,Q sl H → Q' sl H) : ∀ (k : List Bool) (nm : Nat) (l : List Oper) (sl : List AV) (H : Heap),zfq S T ops k nm l sl H Q → zfq S T ops k nm l sl H Q'
 | k,nm,[],sl,H,h => by unfold zfq at h ⊢; exact hq _ _ h
 | [],nm,o :: r,sl,H,h => by unfold zfq at h ⊢; exact zcm hq _ _ _ _ h
 | true :: k,nm,o :: r,sl,H,h => by unfold zfq at h ⊢; exact ⟨h.1,specOp_mono (fun x hx => aopsT_mono hq k _ r _ _ hx) h.2⟩
 | false :: k,nm,o :: r,sl,H,h => by unfold zfq at h ⊢; exact ⟨h.1,h.2.1,aopsT_mono hq k _ r _ _ h.2.2⟩
theorem frzK_mono {l : List Nat} {sl : List AV} {H : Heap} {K K' : List AV → Heap → Prop} (hk : ∀ sl H,K sl H → K' sl H) (h : frzK l sl H K) : frzK l sl H K' := ⟨h.1,hk _ _ h.2⟩
theorem awpO_mono {S SO : zaf} {T : zab} {pl : XPlan} : ∀ (c : Code) (Q Q' : Exit → ASt → Prop) (σ : ASt),(∀ e σ,Q e σ → Q' e σ) → awpO S SO T pl c Q σ → awpO S SO T pl c Q' σ := by
 intro c
 induction c with
 | skip => intro Q Q' σ hq h; exact hq _ _ h
 | label l => intro Q Q' σ hq h; exact hq _ _ h
 | region id ops draw =>
   intro Q Q' σ hq h
   simp only [awpO] at h ⊢
   split at h
   · exact zcm (fun _ _ h => hq _ _ h) _ _ _ _ h
   · exact zfc (fun _ _ h => hq _ _ h) _ _ _ _ _ h
   · exact frzK_mono (fun _ _ h => zcm (fun _ _ h => hq _ _ h) _ _ _ _ h) h
   · exact frzK_mono (fun _ _ h => aopsO_mono (fun _ _ h => hq _ _ h) _ _ _ _ _ h) h
   · exact aopsT_mono (fun _ _ h => hq _ _ h) _ _ _ _ _ h
 | seq a b iha ihb =>
   intro Q Q' σ hq h
   refine iha _ _ σ ?_ h
   intro e σ h
   cases e with
   | normal => exact ihb _ _ σ hq h
   | _ => exact hq _ _ h
 | cond c a b iha ihb =>
   intro Q Q' σ hq h
   simp only [awpO] at h ⊢
   split at h
   · exact ⟨fun e => iha _ _ σ hq (h.1 e),fun e => ihb _ _ σ hq (h.2 e)⟩
   · exact h.elim
 | block id c ih =>
   intro Q Q' σ hq h
   refine ih _ _ σ ?_ h
   intro e σ h
   cases e with
   | exit id' =>
     simp only [zek] at h ⊢
     split at h
     · rename_i he; rw [if_pos he]; exact hq _ _ h
     · rename_i he; rw [if_neg he]; exact hq _ _ h
   | _ => exact hq _ _ h
 | loop c ih =>
   intro Q Q' σ hq h
   obtain ⟨I,hst,hr⟩ := h
   refine ⟨I,hst,fun n σ' hI => ih _ _ σ' ?_ (hr n σ' hI)⟩
   intro e σ h
   cases e with
   | normal => exact h
   | _ =>
     obtain ⟨σ2,hw,h⟩ := h
     exact ⟨σ2,hw,hq _ _ h⟩
 | exit id => intro Q Q' σ hq h; exact hq _ _ h
 | ret => intro Q Q' σ hq h; exact hq _ _ h
 | _ => intro Q Q' σ hq h; exact h.elim
def unK (A : ASt → Prop) (Q : Exit → ASt → Prop) (e : Exit) (σ : ASt) : Prop := match e with
 | .normal => A σ
 | e => Q e σ
def unr (f : (Exit → ASt → Prop) → ASt → Prop) (Q : Exit → ASt → Prop) : Nat → ASt → Prop
 | 0,_ => False
 | n + 1,σ => f (unK (unr f Q n) Q) σ
theorem aloop_unr {f : (Exit → ASt → Prop) → ASt → Prop} {Q : Exit → ASt → Prop} (mono : ∀ (Q Q' : Exit → ASt → Prop) (σ : ASt),(∀ e σ,Q e σ → Q' e σ) → f Q σ → f Q' σ) (n : Nat) (σ : ASt) (h : unr f Q n σ) : ALoop f Q σ := by
 refine ⟨fun k τ => unr f Q k τ,⟨n,σ,Weak.refl _,h⟩,?_⟩
 intro k τ hI
 cases k with
 | zero => exact hI.elim
 | succ k =>
   refine mono _ _ τ ?_ hI
   intro e σ1 h1
   cases e with
   | normal => exact ⟨k,σ1,Nat.lt_succ_self k,Weak.refl _,h1⟩
   | _ => exact ⟨σ1,Weak.refl _,h1⟩
theorem awpO_unr {S SO : zaf} {T : zab} {pl : XPlan} {c : Code} {Q : Exit → ASt → Prop} {σ : ASt} (n : Nat) (h : unr (awpO S SO T pl c) Q n σ) : awpO S SO T pl (.loop c) Q σ :=
 awpO_loopW (aloop_unr (fun Q Q' σ hq h => awpO_mono _ Q Q' σ hq h) n σ h)
theorem unrO_go {S SO : zaf} {T : zab} {pl : XPlan} {c : Code} {Q : Exit → ASt → Prop} {σ : ASt} {n : Nat} : unr (awpO S SO T pl c) Q (n + 1) σ = awpO S SO T pl c (unK (unr (awpO S SO T pl c) Q n) Q) σ := rfl
theorem unK_normal {A : ASt → Prop} {Q : Exit → ASt → Prop} {σ : ASt} : unK A Q .normal σ = A σ := rfl
theorem unK_exit {A : ASt → Prop} {Q : Exit → ASt → Prop} {σ : ASt} {id : Nat} : unK A Q (.exit id) σ = Q (.exit id) σ := rfl
theorem unK_ret {A : ASt → Prop} {Q : Exit → ASt → Prop} {σ : ASt} : unK A Q .ret σ = Q .ret σ := rfl
end Ax
end Go.Proofs.Ytckbejanaebjkaa
namespace Go.Proofs.Ytckbejanaebjkaa
open Ax
theorem sg_false {w : World} {loc : Ax.Loc} {v : Value} {s : Nat} (s' : Nat) {f : Bool} (h : R w loc (.sg s [] f) v) : R w loc (.sg s' [] false) v := by
 cases h with
 | sg _ _ _ a cap cs hd hs hc hl hx hh => exact .sg s' [] false a cap cs ⟨hd.le,hd.top,fun h => by cases h⟩ (by simp) hc hl hx hh
def emp6 (xs : List AV) : Bool := xs.isEmpty
theorem emp6_nil : emp6 [] = true := rfl
def cloneUS : zar
 | [.sg 6 xs f],[] => ⟨xs.length ≤ 1000000 ∧ ∃ rs : List Rec,xs = rs.map rv,bif emp6 xs then .sg 6 [] false else .ms 0 6 0 xs.length,bif emp6 xs then [] else [.g 6 xs]⟩
 | _,_ => zci
def cloneUPl : XPlan := fun id => match id with
 | 1 => .tst [false,true]
 | _ => .std
def cloneUPl0 : XPlan := fun id => match id with
 | 1 => .tst [false,true]
 | 3 => .tst [true,false,true]
 | _ => .std
def goB (m : KM) (b now g : Int) (r : Rec) : Bool := !zex m b r now g
def idx17S : zar
 | [.ms 0 6 0 n,.fn id [.rf 1 6 0 0,.rf 2 1 0 0,.cp [.w (.int .i64 now)],.cp [.w (.int .i64 g)]]],[.g 6 ys,.g 6 [.agg [.w (.int .i64 b),.w (.int .i64 c),.w (.int .i64 p),.w (.int .i64 e),.w (.int .i64 s),.sg 6 xs f]],.g 1 [.rf 3 0 0 0],.o (.mp es)] =>
     ⟨id = 22 ∧ (0 < n ∧ n = ys.length ∧ n ≤ 1000000) ∧ (∃ rs : List Rec,ys = rs.map rv) ∧ ∃ m,es = kvA m,.w (.int .i64 (findI (goB (es.map ukv) b now g) (ys.map rrec) 0)),[.g 6 ys,.g 6 [.agg [.w (.int .i64 b),.w (.int .i64 c),.w (.int .i64 p),.w (.int .i64 e),.w (.int .i64 s),.sg 6 xs f]],.g 1 [.rf 3 0 0 0],.o (.mp es)]⟩
 | [.sg 6 [] f0,.fn id [.rf 0 6 0 0,.rf 1 1 0 0,.cp [.w (.int .i64 now)],.cp [.w (.int .i64 g)]]],[.g 6 [.agg [.w (.int .i64 b),.w (.int .i64 c),.w (.int .i64 p),.w (.int .i64 e),.w (.int .i64 s),.sg 6 xs f]],.g 1 [.rf 2 0 0 0],.o (.mp es)] =>
     ⟨id = 22,.w (.int .i64 (-1)),[.g 6 [.agg [.w (.int .i64 b),.w (.int .i64 c),.w (.int .i64 p),.w (.int .i64 e),.w (.int .i64 s),.sg 6 xs f]],.g 1 [.rf 2 0 0 0],.o (.mp es)]⟩
 | _,_ => zci
def Ogo17 (f : FuncId) : Option zar :=
 match f with
 | 22 => some goes17S
 | _ => none
theorem Ogo17_ok : FnsO Try.prog Ogo17 := by
 intro f s h
 unfold Ogo17 at h
 split at h
 · injection h with h; subst h; exact ⟨⟨_,Try.func22,by kernel_rfl,by kernel_rfl⟩,goes17_sound⟩
 · cases h
def zcz : XPlan := fun id => match id with
 | 4 => .opn [] 5
 | _ => .std
section
set_option maxRecDepth 100000
set_option maxHeartbeats 1000000 in
theorem cloneU_sound : zbm Try.prog 24 cloneUS := by
 refine fn_soundOK (S := noS) (SO := noO) (T := ty) zcj ty_ok zeh noO_ok Try.func24 (c := Try.f24.body.getD .skip) (by kernel_rfl) (fun xs pins hp _ => ?_)
 unfold cloneUS at hp ⊢
 split at hp
 · rename_i xs f _
   obtain ⟨hL,rs,rfl⟩ := hp
   rw [List.length_map] at hL
   have hl4 : (rs.map rv).length = rs.length := by simp
   by_cases hz : rs.length = 0
   · obtain rfl : rs = [] := List.eq_nil_of_length_eq_zero hz
     refine ⟨by simp,cloneUPl0,by kernel_rfl,?_⟩
     unfold Try.f24
     simp only [go_sem,zac,Nat.reduceAdd,Nat.reduceSub,Nat.reduceMul,Int.reduceToNat,reduceCtorEq,↓reduceIte,Int.reducePow,Nat.reducePow,Int.reduceMod,Nat.reduceLeDiff,Int.reduceLE,Int.reduceNe,Int.reduceEq,Nat.reduceEqDiff,Nat.reduceLT,Nat.reduceBEq,List.map_cons,List.map_nil,List.toList_toArray,Array.toList_append,Option.toArray_some,Option.toArray_none,Bool.and_self,ty,noS,cloneUPl0,specOp,hl4]
     repeat (refine And.intro (by omega) ?_)
     intro b
     refine ⟨fun hb => ?_,fun hb => ?_⟩
     · refine ⟨_,zcd 2 (.sg 6 [] false) (fun w loc v h => sg_false 6 h),?_⟩
       simp only [go_sem,zac,Nat.reduceAdd,Nat.reduceSub,Nat.reduceMul,Int.reduceToNat,reduceCtorEq,↓reduceIte,Int.reducePow,Nat.reducePow,Int.reduceMod,Nat.reduceLeDiff,Int.reduceLE,Int.reduceNe,Int.reduceEq,Nat.reduceEqDiff,Nat.reduceLT,Nat.reduceBEq,List.map_cons,List.map_nil,List.toList_toArray,Array.toList_append,Option.toArray_some,Option.toArray_none,Bool.and_self,ty,noS,emp6_nil,cond_true,cond_false]
     · refine ⟨_,zcd 2 (.sg 6 [] false) (fun w loc v h => sg_false 6 h),?_⟩
       simp only [go_sem,zac,Nat.reduceAdd,Nat.reduceSub,Nat.reduceMul,Int.reduceToNat,reduceCtorEq,↓reduceIte,Int.reducePow,Nat.reducePow,Int.reduceMod,Nat.reduceLeDiff,Int.reduceLE,Int.reduceNe,Int.reduceEq,Nat.reduceEqDiff,Nat.reduceLT,Nat.reduceBEq,List.map_cons,List.map_nil,List.toList_toArray,Array.toList_append,Option.toArray_some,Option.toArray_none,Bool.and_self,ty,noS,emp6_nil,cond_true,cond_false]
   · refine ⟨by simp,cloneUPl,by kernel_rfl,?_⟩
     have hem : emp6 (rs.map rv) = false := by cases rs with | nil => simp at hz | cons _ _ => rfl
     have htop : rs.length ≤ top := by unfold top; omega
     unfold Try.f24
     simp only [go_sem,zac,Nat.reduceAdd,Nat.reduceSub,Nat.reduceMul,Int.reduceToNat,reduceCtorEq,↓reduceIte,Int.reducePow,Nat.reducePow,Int.reduceMod,Nat.reduceLeDiff,Int.reduceLE,Int.reduceNe,Int.reduceEq,Nat.reduceEqDiff,Nat.reduceLT,Nat.reduceBEq,List.map_cons,List.map_nil,List.toList_toArray,Array.toList_append,Option.toArray_some,Option.toArray_none,Bool.and_self,ty,noS,cloneUPl,specOp,hl4]
     repeat (refine And.intro (by omega) ?_)
     intro b hb
     obtain rfl : b = false := by cases b with | false => rfl | true => exact absurd (hb rfl) hz
     simp only [go_sem,zac,Nat.reduceAdd,Nat.reduceSub,Nat.reduceMul,Int.reduceToNat,reduceCtorEq,↓reduceIte,Int.reducePow,Nat.reducePow,Int.reduceMod,Nat.reduceLeDiff,Int.reduceLE,Int.reduceNe,Int.reduceEq,Nat.reduceEqDiff,Nat.reduceLT,Nat.reduceBEq,List.map_cons,List.map_nil,List.toList_toArray,Array.toList_append,Option.toArray_some,Option.toArray_none,Bool.and_self,ty,noS,cloneUPl,specOp,hl4,hem,cond_false]
     refine ⟨htop,_,Weak.refl _,?_⟩
     simp only [go_sem,zac,Nat.reduceAdd,Nat.reduceSub,Nat.reduceMul,Int.reduceToNat,reduceCtorEq,↓reduceIte,Int.reducePow,Nat.reducePow,Int.reduceMod,Nat.reduceLeDiff,Int.reduceLE,Int.reduceNe,Int.reduceEq,Nat.reduceEqDiff,Nat.reduceLT,Nat.reduceBEq,List.map_cons,List.map_nil,List.toList_toArray,Array.toList_append,Option.toArray_some,Option.toArray_none,Bool.and_self,ty,noS,hl4,hem,cond_false,zap]
 · exact hp.elim
set_option maxHeartbeats 2000000 in
theorem idx17_sound : SoundO Try.prog 29 idx17S := by
 refine fn_soundO (S := noS) (SO := Ogo17) (T := ty) zcj ty_ok zeh Ogo17_ok Try.func29 (c := Try.f29.body.getD .skip) (by kernel_rfl) (fun xs pins hp => ?_)
 unfold idx17S at hp ⊢
 split at hp
 · rename_i n id now g ys b c p e s xs f es
   obtain ⟨rfl,⟨hn,rfl,hL⟩,⟨rs,rfl⟩,hm⟩ := hp
   obtain ⟨M,hM⟩ : ∃ M,es.map ukv = M := ⟨_,rfl⟩
   rw [List.length_map] at hL hn
   refine ⟨by simp,zcz,by kernel_rfl,?_⟩
   have hl4 : (rs.map rv).length = rs.length := by simp
   have dpos : decide (0 < rs.length) = true := decide_eq_true hn
   obtain ⟨A,hA⟩ : ∃ A,goB M b now g = A := ⟨_,rfl⟩
   unfold Try.f29
   simp only [go_sem,zac,Nat.reduceAdd,Nat.reduceSub,Nat.reduceMul,Int.reduceToNat,reduceCtorEq,↓reduceIte,Int.reducePow,Nat.reducePow,Int.reduceMod,Nat.reduceLeDiff,Int.reduceLE,Int.reduceNe,Int.reduceEq,Nat.reduceEqDiff,Nat.reduceLT,Nat.reduceBEq,List.map_cons,List.map_nil,List.toList_toArray,Array.toList_append,Option.toArray_some,Option.toArray_none,Bool.and_self,ty,noS,Ogo17,zcz,hl4,zam,hM,hA]
   refine awpO_loopW ⟨fun m σ => ∃ i : Nat,m = rs.length - i ∧ i ≤ rs.length ∧ findI A rs 0 = findI A (rs.drop i) i ∧
       σ = ⟨[.ms 0 6 0 rs.length,.fn 22 [.rf 1 6 0 0,.rf 2 1 0 0,.cp [.w (.int .i64 now)],.cp [.w (.int .i64 g)]],.junk,.junk,.junk,.junk,.junk,.w (.int .i64 rs.length),.w (.int .i64 i),.junk,.junk,.junk,.junk,.junk,.junk,.junk,.junk,.junk,.junk],
         [(0,.g 6 (rs.map rv)),(1,.g 6 [.agg [.w (.int .i64 b),.w (.int .i64 c),.w (.int .i64 p),.w (.int .i64 e),.w (.int .i64 s),.sg 6 xs f]]),(2,.g 1 [.rf 3 0 0 0]),(3,.o (.mp es))],4⟩,?_,?_⟩
   · refine ⟨_,_,zag [0,1,2,3] rfl rfl rfl ?_ ?_,0,rfl,by omega,by rw [List.drop_zero]; rfl,rfl⟩
     · simp only [ssT,zaj,zak,setSlot,gOf,AV.ren,renL,Blk.ren,Ax.look,Ax.put,reduceCtorEq,↓reduceIte,Nat.reduceEqDiff,Nat.reduceLT,Nat.reduceAdd,List.length_append,List.length_cons,List.length_nil,Option.some.injEq]; try simp
     · simp only [ssT,zaj,zak,setSlot,gOf,AV.ren,renL,Blk.ren,Ax.look,Ax.put,reduceCtorEq,↓reduceIte,Nat.reduceEqDiff,Nat.reduceLT,Nat.reduceAdd,List.length_append,List.length_cons,List.length_nil,Option.some.injEq,zbo]
   · rintro m σ ⟨i,rfl,hi,hinv,rfl⟩
     by_cases hil : i < rs.length
     · have e1 : ((i : Int) + 1 + 9223372036854775808) % 18446744073709551616 - 9223372036854775808 = ((i + 1 : Nat) : Int) := by omega
       have d1 : decide ((i : Int) < rs.length) = true := decide_eq_true (by omega)
       have hs1 := zbk rv rs i hil
       have hdr : rs.drop i = rs[i] :: rs.drop (i + 1) := List.drop_eq_getElem_cons hil
       obtain ⟨P,hP⟩ : ∃ P,rs[i] = P := ⟨_,rfl⟩
       rw [hP] at hs1 hdr
       simp only [rv] at hs1
       rw [hdr] at hinv
       obtain ⟨d,t,k,key,dd,val⟩ := P
       have hAP : (!zex M b ⟨d,t,k,key,dd,val⟩ now g) = A ⟨d,t,k,key,dd,val⟩ := by rw [← hA]; rfl
       cases hap : A ⟨d,t,k,key,dd,val⟩ with
       | true =>
         have hv : findI A rs 0 = i := by rw [hinv]; unfold findI; rw [if_pos hap]
         simp only [go_sem,zac,Nat.reduceAdd,Nat.reduceSub,Nat.reduceMul,Int.reduceToNat,reduceCtorEq,↓reduceIte,Int.reducePow,Nat.reducePow,Int.reduceMod,Nat.reduceLeDiff,Int.reduceLE,Int.reduceNe,Int.reduceEq,Nat.reduceEqDiff,Nat.reduceLT,Nat.reduceBEq,List.map_cons,List.map_nil,List.toList_toArray,Array.toList_append,Option.toArray_some,Option.toArray_none,Bool.and_self,ty,noS,Ogo17,zcz,goes17S,hl4,dpos,hn,d1,hs1,hm,hM,hAP,hap,hv,zam,hA,Int.toNat_natCast]
         repeat (refine And.intro (by omega) ?_)
         refine ⟨_,Weak.refl _,?_⟩
         simp only [go_sem,zac,Nat.reduceAdd,Nat.reduceSub,Nat.reduceMul,Int.reduceToNat,reduceCtorEq,↓reduceIte,Int.reducePow,Nat.reducePow,Int.reduceMod,Nat.reduceLeDiff,Int.reduceLE,Int.reduceNe,Int.reduceEq,Nat.reduceEqDiff,Nat.reduceLT,Nat.reduceBEq,List.map_cons,List.map_nil,List.toList_toArray,Array.toList_append,Option.toArray_some,Option.toArray_none,Bool.and_self,ty,noS,zcz,hl4,dpos,hn,hv,zam,hA,zap,cond_true,zbo]
         refine ⟨_,Weak.refl _,?_⟩
         simp only [go_sem,zac,Nat.reduceAdd,Nat.reduceSub,Nat.reduceMul,Int.reduceToNat,reduceCtorEq,↓reduceIte,Int.reducePow,Nat.reducePow,Int.reduceMod,Nat.reduceLeDiff,Int.reduceLE,Int.reduceNe,Int.reduceEq,Nat.reduceEqDiff,Nat.reduceLT,Nat.reduceBEq,List.map_cons,List.map_nil,List.toList_toArray,Array.toList_append,Option.toArray_some,Option.toArray_none,Bool.and_self,ty,noS,zcz,hl4,dpos,hn,hv,zam,hA,zap,cond_true,zbo]
       | false =>
         have hv : findI A rs 0 = findI A (rs.drop (i + 1)) ((i + 1 : Nat) : Int) := by
           rw [hinv]; rw [findI,hap]; simp
         simp only [go_sem,zac,Nat.reduceAdd,Nat.reduceSub,Nat.reduceMul,Int.reduceToNat,reduceCtorEq,↓reduceIte,Int.reducePow,Nat.reducePow,Int.reduceMod,Nat.reduceLeDiff,Int.reduceLE,Int.reduceNe,Int.reduceEq,Nat.reduceEqDiff,Nat.reduceLT,Nat.reduceBEq,List.map_cons,List.map_nil,List.toList_toArray,Array.toList_append,Option.toArray_some,Option.toArray_none,Bool.and_self,ty,noS,Ogo17,zcz,goes17S,hl4,dpos,hn,d1,hs1,hm,hM,hAP,hap,e1,Int.toNat_natCast]
         repeat (refine And.intro (by omega) ?_)
         refine ⟨rs.length - (i + 1),_,by omega,zag [0,1,2,3] rfl rfl rfl ?_ ?_,i + 1,rfl,by omega,hv,rfl⟩
         · simp only [ssT,zaj,zak,setSlot,gOf,AV.ren,renL,Blk.ren,Ax.look,Ax.put,reduceCtorEq,↓reduceIte,Nat.reduceEqDiff,Nat.reduceLT,Nat.reduceAdd,List.length_append,List.length_cons,List.length_nil,Option.some.injEq]
         · simp only [ssT,zaj,zak,setSlot,gOf,AV.ren,renL,Blk.ren,Ax.look,Ax.put,reduceCtorEq,↓reduceIte,Nat.reduceEqDiff,Nat.reduceLT,Nat.reduceAdd,List.length_append,List.length_cons,List.length_nil,Option.some.injEq,zbo]
     · have d1 : decide ((i : Int) < rs.length) = false := decide_eq_false (by omega)
       have hdr : rs.drop i = [] := List.drop_eq_nil_of_le (by omega)
       rw [hdr] at hinv
       have hv : findI A rs 0 = -1 := hinv
       simp only [go_sem,zac,Nat.reduceAdd,Nat.reduceSub,Nat.reduceMul,Int.reduceToNat,reduceCtorEq,↓reduceIte,Int.reducePow,Nat.reducePow,Int.reduceMod,Nat.reduceLeDiff,Int.reduceLE,Int.reduceNe,Int.reduceEq,Nat.reduceEqDiff,Nat.reduceLT,Nat.reduceBEq,List.map_cons,List.map_nil,List.toList_toArray,Array.toList_append,Option.toArray_some,Option.toArray_none,Bool.and_self,ty,noS,Ogo17,zcz,hl4,d1,hv,zam,hA]
       refine ⟨_,Weak.refl _,?_⟩
       simp only [go_sem,zac,Nat.reduceAdd,Nat.reduceSub,Nat.reduceMul,Int.reduceToNat,reduceCtorEq,↓reduceIte,Int.reducePow,Nat.reducePow,Int.reduceMod,Nat.reduceLeDiff,Int.reduceLE,Int.reduceNe,Int.reduceEq,Nat.reduceEqDiff,Nat.reduceLT,Nat.reduceBEq,List.map_cons,List.map_nil,List.toList_toArray,Array.toList_append,Option.toArray_some,Option.toArray_none,Bool.and_self,ty,noS,zcz,hl4,dpos,hn,hv,zam,hA,zap,cond_true,zbo]
       refine ⟨_,Weak.refl _,?_⟩
       simp only [go_sem,zac,Nat.reduceAdd,Nat.reduceSub,Nat.reduceMul,Int.reduceToNat,reduceCtorEq,↓reduceIte,Int.reducePow,Nat.reducePow,Int.reduceMod,Nat.reduceLeDiff,Int.reduceLE,Int.reduceNe,Int.reduceEq,Nat.reduceEqDiff,Nat.reduceLT,Nat.reduceBEq,List.map_cons,List.map_nil,List.toList_toArray,Array.toList_append,Option.toArray_some,Option.toArray_none,Bool.and_self,ty,noS,zcz,hl4,dpos,hn,hv,zam,hA,zap,cond_true,zbo]
 · rename_i f0 id now g b c p e s xs f es
   obtain rfl := hp
   refine ⟨by simp,zcz,by kernel_rfl,?_⟩
   have z0 : decide ((0 : Int) < ((0 : Nat) : Int)) = false := rfl
   unfold Try.f29
   simp only [go_sem,zac,Nat.reduceAdd,Nat.reduceSub,Nat.reduceMul,Int.reduceToNat,reduceCtorEq,↓reduceIte,Int.reducePow,Nat.reducePow,Int.reduceMod,Nat.reduceLeDiff,Int.reduceLE,Int.reduceNe,Int.reduceEq,Nat.reduceEqDiff,Nat.reduceLT,Nat.reduceBEq,List.map_cons,List.map_nil,List.toList_toArray,Array.toList_append,Option.toArray_some,Option.toArray_none,Bool.and_self,ty,noS,Ogo17,zcz]
   refine awpO_unr 1 ?_
   simp only [go_sem,zac,Nat.reduceAdd,Nat.reduceSub,Nat.reduceMul,Int.reduceToNat,reduceCtorEq,↓reduceIte,Int.reducePow,Nat.reducePow,Int.reduceMod,Nat.reduceLeDiff,Int.reduceLE,Int.reduceNe,Int.reduceEq,Nat.reduceEqDiff,Nat.reduceLT,Nat.reduceBEq,List.map_cons,List.map_nil,List.toList_toArray,Array.toList_append,Option.toArray_some,Option.toArray_none,Bool.and_self,ty,noS,Ogo17,zcz,z0,unrO_go,unK_normal,unK_exit,unK_ret]
   try refine ⟨_,Weak.refl _,?_⟩
   try simp only [go_sem,zac,Nat.reduceAdd,Nat.reduceSub,Nat.reduceMul,Int.reduceToNat,reduceCtorEq,↓reduceIte,Int.reducePow,Nat.reducePow,Int.reduceMod,Nat.reduceLeDiff,Int.reduceLE,Int.reduceNe,Int.reduceEq,Nat.reduceEqDiff,Nat.reduceLT,Nat.reduceBEq,List.map_cons,List.map_nil,List.toList_toArray,Array.toList_append,Option.toArray_some,Option.toArray_none,Bool.and_self,ty,noS]
 · exact hp.elim
end
end Go.Proofs.Ytckbejanaebjkaa
namespace Go.Proofs.Ytckbejanaebjkaa
open Ax
theorem findI_tells (A : Rec → Bool) : ∀ (rs : List Rec) (k : Int),(findI A rs k = -1 ∧ rs.filter (fun r => !A r) = rs) ∨ ∃ (i : Nat) (h : i < rs.length),findI A rs k = k + i ∧ (rs.take i).filter (fun r => !A r) = rs.take i ∧ A rs[i] = true
 | [],_ => .inl ⟨rfl,rfl⟩
 | r :: rs,k => by
   unfold findI
   cases h : A r with
   | true => exact .inr ⟨0,by simp,by simp,by simp,h⟩
   | false =>
     rcases findI_tells A rs (k + 1) with ⟨h1,h2⟩ | ⟨i,hi,h1,h2,h3⟩
     · refine .inl ⟨by simpa using h1,?_⟩
       rw [List.filter_cons,h]
       simp only [Bool.not_false,if_true,h2]
     · refine .inr ⟨i + 1,by simp; omega,?_,?_,by simpa using h3⟩
       · simp only [Bool.false_eq_true,if_false]; rw [h1]; omega
       · rw [List.take_succ_cons,List.filter_cons,h]
         simp only [Bool.not_false,if_true,h2]
theorem setSlot_rv (r : Rec) : ∀ (cs : List Rec) (w : Nat),w < cs.length → setSlot (cs.map rv) w (rv r) = (cs.set w r).map rv
 | x :: cs,0,_ => rfl
 | x :: cs,w + 1,h => by
   show rv x :: setSlot (cs.map rv) w (rv r) = rv x :: (cs.set w r).map rv
   rw [setSlot_rv r cs w (by simpa using h)]
def zR : Rec := ⟨0,0,false,[],false,[]⟩
def del17S : zar
 | [.ms 0 6 0 n,.fn id [.rf 1 6 0 0,.rf 2 1 0 0,.cp [.w (.int .i64 now)],.cp [.w (.int .i64 g)]]],[.g 6 ys,.g 6 [.agg [.w (.int .i64 b),.w (.int .i64 c),.w (.int .i64 p),.w (.int .i64 e),.w (.int .i64 s),.sg 6 xs f]],.g 1 [.rf 3 0 0 0],.o (.mp es)] =>
     ⟨id = 22 ∧ (0 < n ∧ n = ys.length ∧ n ≤ 1000000) ∧ (∃ rs : List Rec,ys = rs.map rv) ∧ ∃ m,es = kvA m,.sg 6 (((ys.map rrec).filter (fun r => !goB (es.map ukv) b now g r)).map rv) false,[gone,.g 6 [.agg [.w (.int .i64 b),.w (.int .i64 c),.w (.int .i64 p),.w (.int .i64 e),.w (.int .i64 s),.sg 6 xs f]],.g 1 [.rf 3 0 0 0],.o (.mp es)]⟩
 | [.sg 6 [] f0,.fn id [.rf 0 6 0 0,.rf 1 1 0 0,.cp [.w (.int .i64 now)],.cp [.w (.int .i64 g)]]],[.g 6 [.agg [.w (.int .i64 b),.w (.int .i64 c),.w (.int .i64 p),.w (.int .i64 e),.w (.int .i64 s),.sg 6 xs f]],.g 1 [.rf 2 0 0 0],.o (.mp es)] =>
     ⟨id = 22,.sg 6 [] f0,[.g 6 [.agg [.w (.int .i64 b),.w (.int .i64 c),.w (.int .i64 p),.w (.int .i64 e),.w (.int .i64 s),.sg 6 xs f]],.g 1 [.rf 2 0 0 0],.o (.mp es)]⟩
 | _,_ => zci
def Odel17 (f : FuncId) : Option zar :=
 match f with
 | 22 => some goes17S
 | 29 => some idx17S
 | _ => none
theorem Odel17_ok : FnsO Try.prog Odel17 := by
 intro f s h
 unfold Odel17 at h
 split at h
 · injection h with h; subst h; exact ⟨⟨_,Try.func22,by kernel_rfl,by kernel_rfl⟩,goes17_sound⟩
 · injection h with h; subst h; exact ⟨⟨_,Try.func29,by kernel_rfl,by kernel_rfl⟩,idx17_sound⟩
 · cases h
def zeo : XPlan := fun id => match id with
 | 1 => .opn [] 2
 | 8 => .opn [] 2
 | _ => .std
section
set_option maxRecDepth 100000
set_option maxHeartbeats 4000000 in
theorem del17_sound : SoundO Try.prog 23 del17S := by
 refine fn_soundO (S := noS) (SO := Odel17) (T := ty) zcj ty_ok zeh Odel17_ok Try.func23 (c := Try.f23.body.getD .skip) (by kernel_rfl) (fun xs pins hp => ?_)
 unfold del17S at hp ⊢
 split at hp
 · rename_i n id now g ys b c p e s xs f es
   obtain ⟨rfl,⟨hn,rfl,hL⟩,⟨rs,rfl⟩,hm⟩ := hp
   obtain ⟨M,hM⟩ : ∃ M,es.map ukv = M := ⟨_,rfl⟩
   rw [List.length_map] at hL hn
   refine ⟨by simp,zeo,by kernel_rfl,?_⟩
   have hl4 : (rs.map rv).length = rs.length := by simp
   have dpos : decide (0 < rs.length) = true := decide_eq_true hn
   have hx : ∃ qs : List Rec,rs.map rv = qs.map rv := ⟨rs,rfl⟩
   obtain ⟨A,hA⟩ : ∃ A,goB M b now g = A := ⟨_,rfl⟩
   have hA2 : ∀ r,(!zex M b r now g) = A r := fun r => by rw [← hA]; rfl
   have hA3 : (fun r => !goB M b now g r) = fun r => !A r := by rw [hA]
   rw [hM,zam,hA3]
   obtain ⟨K,hK⟩ : ∃ K,(fun r => !A r) = K := ⟨_,rfl⟩
   have hKA : ∀ r,K r = !A r := fun r => by rw [← hK]
   have D := findI_tells A rs 0
   rw [hK] at D ⊢
   unfold Try.f23
   rcases D with ⟨hF,hfl⟩ | ⟨i,hi,hF,htk,hAi⟩
   · have dF : decide (findI A rs 0 = -1) = true := decide_eq_true hF
     simp only [go_sem,zac,Nat.reduceAdd,Nat.reduceSub,Nat.reduceMul,Int.reduceToNat,reduceCtorEq,↓reduceIte,Int.reducePow,Nat.reducePow,Int.reduceMod,Nat.reduceLeDiff,Int.reduceLE,Int.reduceNe,Int.reduceEq,Nat.reduceEqDiff,Nat.reduceLT,Nat.reduceBEq,List.map_cons,List.map_nil,List.toList_toArray,Array.toList_append,Option.toArray_some,Option.toArray_none,Bool.and_self,ty,noS,Odel17,zeo,zap,zbo,cond_true,idx17S,hl4,dpos,hn,hx,hm,hM,zam,hA,dF,hfl]
     repeat (refine And.intro (by omega) ?_)
     have hdle : decide (0 + rs.length ≤ (rs.map rv).length) = true := decide_eq_true (by simp)
     have htk : (rs.map rv).take rs.length = rs.map rv := List.take_of_length_le (by simp)
     refine ⟨_,weak_fg 0 6 4 (rs.map rv) rfl (zap rs) (by simp [slot,AV.ids]),?_⟩
     simp only [fgL,fgH,AV.fg,Blk.fg,Nat.reduceBEq,cond_true,cond_false,hdle,Bool.and_true,beq_self_eq_true,Bool.true_and,List.drop_zero,htk]
     simp only [go_sem,zac,Nat.reduceAdd,Nat.reduceSub,Nat.reduceMul,Int.reduceToNat,reduceCtorEq,↓reduceIte,Int.reducePow,Nat.reducePow,Int.reduceMod,Nat.reduceLeDiff,Int.reduceLE,Int.reduceNe,Int.reduceEq,Nat.reduceEqDiff,Nat.reduceLT,Nat.reduceBEq,List.map_cons,List.map_nil,List.toList_toArray,Array.toList_append,Option.toArray_some,Option.toArray_none,Bool.and_self,ty,noS,hfl,zam,zap,zbo,cond_true]
   · have hF : findI A rs 0 = (i : Int) := by rw [hF]; omega
     have dF : decide ((i : Int) = -1) = false := decide_eq_false (by omega)
     have e0 : ((i : Int) + 1 + 9223372036854775808) % 18446744073709551616 - 9223372036854775808 = ((i + 1 : Nat) : Int) := by omega
     simp only [go_sem,zac,Nat.reduceAdd,Nat.reduceSub,Nat.reduceMul,Int.reduceToNat,reduceCtorEq,↓reduceIte,Int.reducePow,Nat.reducePow,Int.reduceMod,Nat.reduceLeDiff,Int.reduceLE,Int.reduceNe,Int.reduceEq,Nat.reduceEqDiff,Nat.reduceLT,Nat.reduceBEq,List.map_cons,List.map_nil,List.toList_toArray,Array.toList_append,Option.toArray_some,Option.toArray_none,Bool.and_self,ty,noS,Odel17,zeo,zap,zbo,cond_true,idx17S,hl4,dpos,hn,hx,hm,hM,zam,hA,hF,dF,e0]
     repeat (refine And.intro (by omega) ?_)
     refine awpO_loopW ⟨fun m σ => ∃ (j w : Nat) (cs : List Rec),m = rs.length - j ∧ (w < j ∧ j ≤ rs.length) ∧ cs.length = rs.length ∧ cs.take w = (rs.take j).filter K ∧ cs.drop j = rs.drop j ∧
         σ = ⟨[.ms 0 6 0 rs.length,.fn 22 [.rf 1 6 0 0,.rf 2 1 0 0,.cp [.w (.int .i64 now)],.cp [.w (.int .i64 g)]],.junk,.junk,.junk,.w (.int .i64 w),.w (.int .i64 j),.junk,.junk,.junk,.junk,.junk,.junk,.junk,.junk,.junk,.junk,.junk,.junk,.junk,.junk,.junk,.junk,.junk,.junk,.junk,.junk,.junk,.junk,.junk,.junk,.junk,.junk,.junk,.junk,.junk,.junk,.junk,.junk,.junk,.junk,.junk],
           [(0,.g 6 (cs.map rv)),(1,.g 6 [.agg [.w (.int .i64 b),.w (.int .i64 c),.w (.int .i64 p),.w (.int .i64 e),.w (.int .i64 s),.sg 6 xs f]]),(2,.g 1 [.rf 3 0 0 0]),(3,.o (.mp es))],4⟩,?_,?_⟩
     · refine ⟨_,_,zag [0,1,2,3] rfl rfl rfl ?_ ?_,i + 1,i,rs,rfl,by omega,rfl,?_,rfl,rfl⟩
       · simp only [ssT,zaj,zak,setSlot,gOf,AV.ren,renL,Blk.ren,Ax.look,Ax.put,reduceCtorEq,↓reduceIte,Nat.reduceEqDiff,Nat.reduceLT,Nat.reduceAdd,List.length_append,List.length_cons,List.length_nil,Option.some.injEq]; try simp
       · simp only [ssT,zaj,zak,setSlot,gOf,AV.ren,renL,Blk.ren,Ax.look,Ax.put,reduceCtorEq,↓reduceIte,Nat.reduceEqDiff,Nat.reduceLT,Nat.reduceAdd,List.length_append,List.length_cons,List.length_nil,Option.some.injEq,zbo]
       · rw [List.take_succ_eq_append_getElem hi,List.filter_append,htk]
         simp [hKA,hAi]
     · rintro m σ ⟨j,w,cs,rfl,⟨hwj,hj⟩,hcl,htw,hdj,rfl⟩
       have hl5 : (cs.map rv).length = rs.length := by simp [hcl]
       by_cases hjl : j < rs.length
       · have e1 : ((j : Int) + 1 + 9223372036854775808) % 18446744073709551616 - 9223372036854775808 = ((j + 1 : Nat) : Int) := by omega
         have e2 : ((w : Int) + 1 + 9223372036854775808) % 18446744073709551616 - 9223372036854775808 = ((w + 1 : Nat) : Int) := by omega
         have d1 : decide ((j : Int) < rs.length) = true := decide_eq_true (by omega)
         have hjc : j < cs.length := by omega
         have hcj : cs[j] = rs[j] := by
           have h1 : cs.drop j = cs[j] :: cs.drop (j + 1) := List.drop_eq_getElem_cons hjc
           have h2 : rs.drop j = rs[j] :: rs.drop (j + 1) := List.drop_eq_getElem_cons hjl
           rw [h1,h2] at hdj
           injection hdj
         have hs1 := zbk rv cs j hjc
         rw [hcj] at hs1
         have htk1 : (rs.take (j + 1)).filter K = (rs.take j).filter K ++ [rs[j]].filter K := by rw [List.take_succ_eq_append_getElem hjl,List.filter_append]
         have hdj1 : cs.drop (j + 1) = rs.drop (j + 1) := by
           have := congrArg (List.drop 1) hdj
           simpa [List.drop_drop,Nat.add_comm] using this
         obtain ⟨P,hP⟩ : ∃ P,rs[j] = P := ⟨_,rfl⟩
         rw [hP] at hs1 htk1
         simp only [rv] at hs1
         obtain ⟨d,t,k,key,dd,val⟩ := P
         have hAP := hA2 ⟨d,t,k,key,dd,val⟩
         have hKP := hKA ⟨d,t,k,key,dd,val⟩
         cases hap : A ⟨d,t,k,key,dd,val⟩ with
         | true =>
           rw [hap] at hKP
           have hf0 : (rs.take (j + 1)).filter K = (rs.take j).filter K := by rw [htk1]; simp [hKP]
           simp only [go_sem,zac,Nat.reduceAdd,Nat.reduceSub,Nat.reduceMul,Int.reduceToNat,reduceCtorEq,↓reduceIte,Int.reducePow,Nat.reducePow,Int.reduceMod,Nat.reduceLeDiff,Int.reduceLE,Int.reduceNe,Int.reduceEq,Nat.reduceEqDiff,Nat.reduceLT,Nat.reduceBEq,List.map_cons,List.map_nil,List.toList_toArray,Array.toList_append,Option.toArray_some,Option.toArray_none,Bool.and_self,ty,noS,Odel17,zeo,zap,zbo,cond_true,goes17S,hl4,hl5,dpos,hn,d1,hs1,hm,hM,hAP,hap,e1,e2,Int.toNat_natCast,Bool.not_true]
           repeat (refine And.intro (by omega) ?_)
           refine ⟨rs.length - (j + 1),_,by omega,zag [0,1,2,3] rfl rfl rfl ?_ ?_,j + 1,w,cs,rfl,by omega,hcl,by rw [hf0]; exact htw,hdj1,rfl⟩
           · simp only [ssT,zaj,zak,setSlot,gOf,AV.ren,renL,Blk.ren,Ax.look,Ax.put,reduceCtorEq,↓reduceIte,Nat.reduceEqDiff,Nat.reduceLT,Nat.reduceAdd,List.length_append,List.length_cons,List.length_nil,Option.some.injEq]
           · simp only [ssT,zaj,zak,setSlot,gOf,AV.ren,renL,Blk.ren,Ax.look,Ax.put,reduceCtorEq,↓reduceIte,Nat.reduceEqDiff,Nat.reduceLT,Nat.reduceAdd,List.length_append,List.length_cons,List.length_nil,Option.some.injEq,zbo]
         | false =>
           rw [hap] at hKP
           have hwc : w < cs.length := by omega
           have hs2 := zbk rv cs w hwc
           simp only [rv] at hs2
           have hd6 : ∀ a b c d e f : AV,List.drop 6 [a,b,c,d,e,f] = [] := fun _ _ _ _ _ _ => rfl
           have hl6 : ∀ a b c d e f : AV,[a,b,c,d,e,f].length = 6 := fun _ _ _ _ _ _ => rfl
           have hss := setSlot_rv ⟨d,t,k,key,dd,val⟩ cs w hwc
           simp only [rv] at hss
           have hf0 : (cs.set w ⟨d,t,k,key,dd,val⟩).take (w + 1) = (rs.take (j + 1)).filter K := by
             rw [htk1,← htw,List.take_succ_eq_append_getElem (by simp; exact hwc),List.take_set_of_le (Nat.le_refl _)]
             simp [hKP]
           have hd0 : (cs.set w ⟨d,t,k,key,dd,val⟩).drop (j + 1) = rs.drop (j + 1) := by
             rw [List.drop_set_of_lt (by omega)]; exact hdj1
           simp only [go_sem,zac,Nat.reduceAdd,Nat.reduceSub,Nat.reduceMul,Int.reduceToNat,reduceCtorEq,↓reduceIte,Int.reducePow,Nat.reducePow,Int.reduceMod,Nat.reduceLeDiff,Int.reduceLE,Int.reduceNe,Int.reduceEq,Nat.reduceEqDiff,Nat.reduceLT,Nat.reduceBEq,List.map_cons,List.map_nil,List.toList_toArray,Array.toList_append,Option.toArray_some,Option.toArray_none,Bool.and_self,ty,noS,Odel17,zeo,zap,zbo,cond_true,goes17S,hl4,hl5,dpos,hn,d1,hs1,hs2,hd6,hl6,hss,hm,hM,hAP,hap,e1,e2,Int.toNat_natCast,Bool.not_false]
           repeat (refine And.intro (by omega) ?_)
           refine ⟨rs.length - (j + 1),_,by omega,zag [0,1,2,3] rfl rfl rfl ?_ ?_,j + 1,w + 1,cs.set w ⟨d,t,k,key,dd,val⟩,rfl,by omega,by simp [hcl],hf0,hd0,rfl⟩
           · simp only [ssT,zaj,zak,setSlot,gOf,AV.ren,renL,Blk.ren,Ax.look,Ax.put,reduceCtorEq,↓reduceIte,Nat.reduceEqDiff,Nat.reduceLT,Nat.reduceAdd,List.length_append,List.length_cons,List.length_nil,Option.some.injEq]
           · simp only [ssT,zaj,zak,setSlot,gOf,AV.ren,renL,Blk.ren,Ax.look,Ax.put,reduceCtorEq,↓reduceIte,Nat.reduceEqDiff,Nat.reduceLT,Nat.reduceAdd,List.length_append,List.length_cons,List.length_nil,Option.some.injEq,zbo]
       · have d1 : decide ((j : Int) < rs.length) = false := decide_eq_false (by omega)
         have htj : rs.take j = rs := List.take_of_length_le (by omega)
         rw [htj] at htw
         simp only [go_sem,zac,Nat.reduceAdd,Nat.reduceSub,Nat.reduceMul,Int.reduceToNat,reduceCtorEq,↓reduceIte,Int.reducePow,Nat.reducePow,Int.reduceMod,Nat.reduceLeDiff,Int.reduceLE,Int.reduceNe,Int.reduceEq,Nat.reduceEqDiff,Nat.reduceLT,Nat.reduceBEq,List.map_cons,List.map_nil,List.toList_toArray,Array.toList_append,Option.toArray_some,Option.toArray_none,Bool.and_self,ty,noS,Odel17,zeo,zap,zbo,cond_true,hl4,hl5,d1,zam,hA]
         refine ⟨_,Weak.refl _,?_⟩
         simp only [go_sem,zac,Nat.reduceAdd,Nat.reduceSub,Nat.reduceMul,Int.reduceToNat,reduceCtorEq,↓reduceIte,Int.reducePow,Nat.reducePow,Int.reduceMod,Nat.reduceLeDiff,Int.reduceLE,Int.reduceNe,Int.reduceEq,Nat.reduceEqDiff,Nat.reduceLT,Nat.reduceBEq,List.map_cons,List.map_nil,List.toList_toArray,Array.toList_append,Option.toArray_some,Option.toArray_none,Bool.and_self,ty,noS,Odel17,zeo,zap,zbo,cond_true,hl4,hl5,d1,zam,hA,Int.toNat_natCast]
         repeat (refine And.intro (by omega) ?_)
         have hz : List.take w (cs.map rv) ++ (List.replicate (rs.length - w) (.agg [.w (.int .i64 0),.w (.int .i64 0),.w (.bool false),.str [],.w (.bool false),.str []]) ++ List.drop (w + (rs.length - w)) (cs.map rv)) = (cs.take w ++ List.replicate (rs.length - w) zR).map rv := by
           have h1 : List.drop (w + (rs.length - w)) (cs.map rv) = [] := List.drop_eq_nil_of_le (by simp; omega)
           rw [h1,List.append_nil,List.map_append,List.map_take,List.map_replicate]; rfl
         rw [hz]
         have hwl : (cs.take w).length = w := by rw [List.length_take]; omega
         have hdle : decide (0 + (w - 0) ≤ ((cs.take w ++ List.replicate (rs.length - w) zR).map rv).length) = true := decide_eq_true (by simp; omega)
         have htk : ((cs.take w ++ List.replicate (rs.length - w) zR).map rv).take (w - 0) = (rs.filter K).map rv := by
           rw [← htw,Nat.sub_zero,List.map_append,List.take_left' (by rw [List.length_map,hwl])]
         have hcz := zap (cs.take w ++ List.replicate (rs.length - w) zR)
         generalize (cs.take w ++ List.replicate (rs.length - w) zR).map rv = Z at *
         refine ⟨_,weak_fg 0 6 4 Z rfl hcz (by simp [slot,AV.ids]),?_⟩
         simp only [fgL,fgH,AV.fg,Blk.fg,Nat.reduceBEq,cond_true,cond_false,hdle,Bool.and_true,beq_self_eq_true,Bool.true_and,List.drop_zero,htk]
         simp only [go_sem,zac,Nat.reduceAdd,Nat.reduceSub,Nat.reduceMul,Int.reduceToNat,reduceCtorEq,↓reduceIte,Int.reducePow,Nat.reducePow,Int.reduceMod,Nat.reduceLeDiff,Int.reduceLE,Int.reduceNe,Int.reduceEq,Nat.reduceEqDiff,Nat.reduceLT,Nat.reduceBEq,List.map_cons,List.map_nil,List.toList_toArray,Array.toList_append,Option.toArray_some,Option.toArray_none,Bool.and_self,ty,noS,zam,zap,zbo,cond_true]
 · rename_i f0 id now g b c p e s xs f es
   obtain rfl := hp
   refine ⟨by simp,zeo,by kernel_rfl,?_⟩
   have z0 : decide ((-1 : Int) = -1) = true := rfl
   unfold Try.f23
   simp only [go_sem,coe,zac,Nat.reduceAdd,Nat.reduceSub,Nat.reduceMul,Int.reduceToNat,reduceCtorEq,↓reduceIte,Int.reducePow,Nat.reducePow,Int.reduceMod,Nat.reduceLeDiff,Int.reduceLE,Int.reduceNe,Int.reduceEq,Nat.reduceEqDiff,Nat.reduceLT,Nat.reduceBEq,List.map_cons,List.map_nil,List.toList_toArray,Array.toList_append,Option.toArray_some,Option.toArray_none,Bool.and_self,ty,noS,Odel17,zeo,zap,zbo,cond_true,idx17S,z0]
   refine ⟨_,Weak.refl _,?_⟩
   simp only [go_sem,coe,zac,Nat.reduceAdd,Nat.reduceSub,Nat.reduceMul,Int.reduceToNat,reduceCtorEq,↓reduceIte,Int.reducePow,Nat.reducePow,Int.reduceMod,Nat.reduceLeDiff,Int.reduceLE,Int.reduceNe,Int.reduceEq,Nat.reduceEqDiff,Nat.reduceLT,Nat.reduceBEq,List.map_cons,List.map_nil,List.toList_toArray,Array.toList_append,Option.toArray_some,Option.toArray_none,Bool.and_self,ty,noS,zeo]
 · exact hp.elim
end
end Go.Proofs.Ytckbejanaebjkaa
namespace Go.Proofs.Ytckbejanaebjkaa
open Ax
def clnB (M : KM) (now g : Int) (x : Bat) : Bat := ⟨x.b,x.c,x.p,x.e,x.s,x.rs.filter (fun r => zex M x.b r now g)⟩
def empB (x : Bat) : Prop := x.rs.length = 0 ∧ x.p = 0
instance (x : Bat) : Decidable (empB x) := by unfold empB; infer_instance
def clnS (M : KM) (now g : Int) (a : List Bat) (x : Bat) : List Bat := if empB (clnB M now g x) then a else a ++ [clnB M now g x]
def clnM (M : KM) (now g : Int) (l : List Bat) : List Bat := l.foldl (clnS M now g) []
def clnL (l : List Bat) (now g : Int) : List Bat := clnM (zbb l) now g l
theorem clnM_len (M : KM) (now g : Int) : ∀ (l a : List Bat),(l.foldl (clnS M now g) a).length ≤ a.length + l.length
 | [],a => Nat.le_refl _
 | x :: l,a => by
   have h := clnM_len M now g l (clnS M now g a x)
   have h2 : (clnS M now g a x).length ≤ a.length + 1 := by unfold clnS; split <;> simp
   simp only [List.foldl_cons,List.length_cons]; omega
def emp17S : zar
 | [.agg [.w (.int .i64 b),.w (.int .i64 c),.w (.int .i64 p),.w (.int .i64 e),.w (.int .i64 s),.sg 6 xs f]],[] => ⟨xs.length ≤ 9223372036854775807,.w (.bool (decide (xs.length = 0 ∧ p = 0))),[]⟩
 | _,_ => zci
def cln17S : zar
 | [.sg 6 xs f,.w (.int .i64 now),.w (.int .i64 g)],[] => ⟨xs.length ≤ 1000000 ∧ ∃ es : List (Bat × Bool),xs = es.map bvp ∧ ∀ p ∈ es,p.1.rs.length ≤ 1000000,.sg 6 (bfr (clnL (xs.map ubat) now g)) false,[]⟩
 | _,_ => zci
section
set_option maxRecDepth 100000
theorem emp17_sound : zbm Try.prog 25 emp17S := by
 refine zau (S := noS) (T := ty) zcj ty_ok zeh Try.func25 (c := Try.f25.body.getD .skip) (by kernel_rfl) (by kernel_rfl) (fun xs pins hp _ => ?_)
 unfold emp17S at hp ⊢
 split at hp
 · rename_i b c p e s xs f _
   have hL : xs.length ≤ 9223372036854775807 := hp
   refine ⟨by simp,?_⟩
   unfold Try.f25
   by_cases h1 : xs.length = 0
   · have d1 : decide ((xs.length : Int) = 0) = true := decide_eq_true (by omega)
     by_cases h2 : p = 0
     · have d2 : decide (p = 0) = true := decide_eq_true h2
       have dv : decide (xs.length = 0 ∧ p = 0) = true := decide_eq_true ⟨h1,h2⟩
       simp only [go_sem,zaa,Nat.reduceAdd,Nat.reduceSub,Nat.reduceMul,Int.reduceToNat,reduceCtorEq,↓reduceIte,Int.reducePow,Nat.reducePow,Int.reduceMod,Nat.reduceLeDiff,Int.reduceLE,Int.reduceNe,Int.reduceEq,Nat.reduceEqDiff,Nat.reduceLT,Nat.reduceBEq,ty,noS,d1,d2,dv]
     · have d2 : decide (p = 0) = false := decide_eq_false h2
       have dv : decide (xs.length = 0 ∧ p = 0) = false := decide_eq_false (fun h => h2 h.2)
       simp only [go_sem,zaa,Nat.reduceAdd,Nat.reduceSub,Nat.reduceMul,Int.reduceToNat,reduceCtorEq,↓reduceIte,Int.reducePow,Nat.reducePow,Int.reduceMod,Nat.reduceLeDiff,Int.reduceLE,Int.reduceNe,Int.reduceEq,Nat.reduceEqDiff,Nat.reduceLT,Nat.reduceBEq,ty,noS,d1,d2,dv]
   · have d1 : decide ((xs.length : Int) = 0) = false := decide_eq_false (by omega)
     have dv : decide (xs.length = 0 ∧ p = 0) = false := decide_eq_false (fun h => h1 h.1)
     simp only [go_sem,zaa,Nat.reduceAdd,Nat.reduceSub,Nat.reduceMul,Int.reduceToNat,reduceCtorEq,↓reduceIte,Int.reducePow,Nat.reducePow,Int.reduceMod,Nat.reduceLeDiff,Int.reduceLE,Int.reduceNe,Int.reduceEq,Nat.reduceEqDiff,Nat.reduceLT,Nat.reduceBEq,ty,noS,d1,dv]
 · exact hp.elim
def Scln17 (f : FuncId) : Option zar :=
 match f with
 | 8 => some zdt
 | 25 => some emp17S
 | 24 => some cloneUS
 | _ => none
theorem Scln17_ok : Fns Try.prog Scln17 := by
 intro f s h
 unfold Scln17 at h
 split at h
 · injection h with h; subst h; exact ⟨⟨_,Try.func8,by kernel_rfl,by kernel_rfl⟩,zei⟩
 · injection h with h; subst h; exact ⟨⟨_,Try.func25,by kernel_rfl,by kernel_rfl⟩,emp17_sound⟩
 · injection h with h; subst h; exact ⟨⟨_,Try.func24,by kernel_rfl,by kernel_rfl⟩,cloneU_sound⟩
 · cases h
def Ocln17 (f : FuncId) : Option zar :=
 match f with
 | 23 => some del17S
 | _ => none
theorem Ocln17_ok : FnsO Try.prog Ocln17 := by
 intro f s h
 unfold Ocln17 at h
 split at h
 · injection h with h; subst h; exact ⟨⟨_,Try.func23,by kernel_rfl,by kernel_rfl⟩,del17_sound⟩
 · cases h
def cln17Pl : XPlan := fun id => match id with
 | 7 => .opn [] 4
 | _ => .std
set_option maxHeartbeats 4000000 in
theorem cln17_sound : zbm Try.prog 12 cln17S := by
 refine fn_soundOK (S := Scln17) (SO := Ocln17) (T := ty) zcj ty_ok Scln17_ok Ocln17_ok Try.func12 (c := Try.f12.body.getD .skip) (by kernel_rfl) (fun xs pins hp _ => ?_)
 unfold cln17S at hp ⊢
 split at hp
 · rename_i xs f now g _
   obtain ⟨hL,es,rfl,he⟩ := hp
   simp only [List.length_map] at hL
   refine ⟨by simp,cln17Pl,by kernel_rfl,?_⟩
   have hlp : (es.map bvp).length = es.length := by simp
   have hbs : isBs (es.map bvp) := ⟨es,rfl,fun p hp => by have := he p hp; omega⟩
   have mu := zct es
   rw [mu]
   obtain ⟨l,hl⟩ : ∃ l,es.map Prod.fst = l := ⟨_,rfl⟩
   rw [hl] at mu ⊢
   have hlq : l.length = es.length := by subst hl; simp
   obtain ⟨M,hM⟩ : ∃ M,zbb l = M := ⟨_,rfl⟩
   have hcl : clnL l now g = clnM M now g l := by rw [← hM]; rfl
   have hkv : (kvA M).map ukv = M := ukv_kvA M
   have hmx : ∃ m,kvA M = kvA m := ⟨M,rfl⟩
   rw [hcl]
   have ht : top = 4294967296 := rfl
   have hx0 : ∃ qs : List Rec,([] : List AV) = qs.map rv := ⟨[],rfl⟩
   have hcB : ∀ h,coe ty 22 (.sg 6 (es.map bvp) h) = .sg 6 (es.map bvp) h := fun h => by cases es <;> rfl
   unfold Try.f12
   simp only [go_sem,zac,Nat.reduceAdd,Nat.reduceSub,Nat.reduceMul,Int.reduceToNat,reduceCtorEq,↓reduceIte,Int.reducePow,Nat.reducePow,Int.reduceMod,Nat.reduceLeDiff,Int.reduceLE,Int.reduceNe,Int.reduceEq,Nat.reduceEqDiff,Nat.reduceLT,Nat.reduceBEq,List.map_cons,List.map_nil,List.toList_toArray,Array.toList_append,Option.toArray_some,Option.toArray_none,Bool.and_self,ty,Scln17,Ocln17,cln17Pl,zdt,hcB,hlp,hbs,mu,hM]
   repeat (refine And.intro (by omega) ?_)
   refine awpO_loopW ⟨fun m σ => ∃ (i : Nat) (a : List Bat),m = es.length - i ∧ i ≤ es.length ∧ clnM M now g l = (l.drop i).foldl (clnS M now g) a ∧ a.length ≤ i ∧
       σ = ⟨[.sg 6 (es.map bvp) f,.junk,.junk,.junk,.cp [.w (.int .i64 now)],.cp [.w (.int .i64 g)],.junk,.rf 5 1 0 0,.ms 6 6 0 a.length,.junk,.junk,.junk,.junk,.junk,.sg 6 (es.map bvp) f,.w (.int .i64 es.length),.w (.int .i64 i),.junk,.junk,.junk,.junk,.junk,.junk,.junk,.junk,.junk,.junk,.junk,.junk,.junk,.junk,.junk,.junk,.junk,.junk,.junk],
         [(4,.o (.mp (kvA M))),(5,.g 1 [.rf 4 0 0 0]),(6,.g 6 (bfr a))],7⟩,?_,?_⟩
   · refine ⟨_,_,(weak_fp 4 4 (.int .i64 now) rfl (by simp [slot,AV.ids])).trans ((weak_fp 12 5 (.int .i64 g) rfl (by simp [slot,AV.ids,fpL,AV.fp])).trans ((weak_nil 8 6 (.g 6 []) ⟨by decide,rfl⟩ (by exact trivial)).trans (zag [0,1,2,3,36,44,92] rfl rfl rfl ?_ ?_))),0,[],rfl,by omega,rfl,by simp,rfl⟩
     · simp only [ssT,zaj,zak,setSlot,gOf,AV.ren,renL,Blk.ren,Ax.look,Ax.put,reduceCtorEq,↓reduceIte,Nat.reduceEqDiff,Nat.reduceLT,Nat.reduceAdd,List.length_append,List.length_cons,List.length_nil,Option.some.injEq,fpL,fpH,AV.fp,Blk.fp,Nat.reduceBEq,cond_true,cond_false,beq_self_eq_true,Bool.and_self]; try simp
     · simp only [ssT,zaj,zak,setSlot,gOf,AV.ren,renL,Blk.ren,Ax.look,Ax.put,reduceCtorEq,↓reduceIte,Nat.reduceEqDiff,Nat.reduceLT,Nat.reduceAdd,List.length_append,List.length_cons,List.length_nil,Option.some.injEq,fpL,fpH,AV.fp,Blk.fp,Nat.reduceBEq,cond_true,cond_false,beq_self_eq_true,Bool.and_self,bfr_nil]; try simp
   · rintro m σ ⟨i,a,rfl,hi,hinv,hal,rfl⟩
     have e1 : ((i : Int) + 1 + 9223372036854775808) % 18446744073709551616 - 9223372036854775808 = ((i + 1 : Nat) : Int) := by omega
     have hml := len_bfr a
     by_cases hil : i < es.length
     · have d3 : decide ((i : Int) < es.length) = true := decide_eq_true (by omega)
       have hs1 := zdc es i hil
       have m1 := he es[i] (List.getElem_mem hil)
       have hdr : l.drop i = es[i].1 :: l.drop (i + 1) := by
         rw [List.drop_eq_getElem_cons (by omega)]
         subst hl; simp
       obtain ⟨P,hP⟩ : ∃ P,es[i] = P := ⟨_,rfl⟩
       rw [hP] at hs1 m1 hdr
       rw [hdr,List.foldl_cons] at hinv
       obtain ⟨⟨b,c,p,e,s,rs⟩,f'⟩ := P
       have hs1 : slot (es.map bvp) i = .agg [.w (.int .i64 b),.w (.int .i64 c),.w (.int .i64 p),.w (.int .i64 e),.w (.int .i64 s),.sg 6 (rs.map rv) f'] := hs1
       simp only at m1
       have hlr : (rs.map rv).length = rs.length := by simp
       have hcR : ∀ h,coe ty 28 (.sg 6 (rs.map rv) h) = .sg 6 (rs.map rv) h := fun h => by cases rs <;> rfl
       have hx : ∃ qs : List Rec,rs.map rv = qs.map rv := ⟨rs,rfl⟩
       have hr1 := zam rs
       have hflt : rs.filter (fun r => !goB M b now g r) = rs.filter (fun r => zex M b r now g) := by
         have hf : (fun r => !goB M b now g r) = fun r => zex M b r now g := by funext r; unfold goB; exact Bool.not_not _
         rw [hf]
       obtain ⟨qs,hq⟩ : ∃ qs,rs.filter (fun r => zex M b r now g) = qs := ⟨_,rfl⟩
       rw [hq] at hflt
       have hlqs : qs.length ≤ rs.length := by rw [← hq]; exact List.length_filter_le _ _
       have hlqv : (qs.map rv).length = qs.length := by simp
       have hB : clnB M now g ⟨b,c,p,e,s,rs⟩ = ⟨b,c,p,e,s,qs⟩ := by unfold clnB; rw [hq]
       unfold clnS at hinv
       rw [hB] at hinv
       have hst : (qs.length = 0 ∧ p = 0) = empB ⟨b,c,p,e,s,qs⟩ := rfl
       have hcN : ∀ h,coe ty 28 (.sg 6 [] h) = .sg 6 [] h := fun h => rfl
       have hbsn := bfr_snoc a ⟨b,c,p,e,s,qs⟩
       simp only [bav] at hbsn
       by_cases hz : rs.length = 0
       · obtain rfl : rs = [] := List.eq_nil_of_length_eq_zero hz
         have hq0 : qs = [] := by rw [← hq]; exact List.filter_nil
         clear hq hflt hB hlqs hlqv hcR hlr hx hr1
         subst hq0
         simp only [List.map_nil] at hs1 hbsn
         have l0 : ([] : List AV).length = 0 := rfl
         by_cases hE : empB ⟨b,c,p,e,s,[]⟩
         · have dE : decide (p = 0) = true := decide_eq_true hE.2
           rw [if_pos hE] at hinv
           simp only [go_sem,zac,Nat.reduceAdd,Nat.reduceSub,Nat.reduceMul,Int.reduceToNat,reduceCtorEq,↓reduceIte,Int.reducePow,Nat.reducePow,Int.reduceMod,Nat.reduceLeDiff,Int.reduceLE,Int.reduceNe,Int.reduceEq,Nat.reduceEqDiff,Nat.reduceLT,Nat.reduceBEq,List.map_cons,List.map_nil,List.toList_toArray,Array.toList_append,Option.toArray_some,Option.toArray_none,Bool.and_self,ty,Scln17,Ocln17,cln17Pl,cloneUS,del17S,emp17S,hcN,hlp,hml,d3,hs1,hx0,emp6_nil,dE,e1,cond_true,cond_false,zap,zbo,Int.toNat_natCast,Bool.not_true,l0]
           repeat (refine And.intro (by omega) ?_)
           refine ⟨es.length - (i + 1),_,by omega,zag [0,1,2,3,4,5,6] rfl rfl rfl ?_ ?_,i + 1,a,rfl,by omega,hinv,by omega,rfl⟩
           · simp only [ssT,zaj,zak,setSlot,gOf,AV.ren,renL,Blk.ren,Ax.look,Ax.put,reduceCtorEq,↓reduceIte,Nat.reduceEqDiff,Nat.reduceLT,Nat.reduceAdd,List.length_append,List.length_cons,List.length_nil,Option.some.injEq]
           · simp only [ssT,zaj,zak,setSlot,gOf,AV.ren,renL,Blk.ren,Ax.look,Ax.put,reduceCtorEq,↓reduceIte,Nat.reduceEqDiff,Nat.reduceLT,Nat.reduceAdd,List.length_append,List.length_cons,List.length_nil,Option.some.injEq,ren_bfr]
         · have dE : decide (p = 0) = false := decide_eq_false (fun h => hE ⟨rfl,h⟩)
           rw [if_neg hE] at hinv
           simp only [go_sem,zac,Nat.reduceAdd,Nat.reduceSub,Nat.reduceMul,Int.reduceToNat,reduceCtorEq,↓reduceIte,Int.reducePow,Nat.reducePow,Int.reduceMod,Nat.reduceLeDiff,Int.reduceLE,Int.reduceNe,Int.reduceEq,Nat.reduceEqDiff,Nat.reduceLT,Nat.reduceBEq,List.map_cons,List.map_nil,List.toList_toArray,Array.toList_append,Option.toArray_some,Option.toArray_none,Bool.and_self,ty,Scln17,Ocln17,cln17Pl,cloneUS,del17S,emp17S,hcN,hlp,hml,d3,hs1,hx0,emp6_nil,dE,e1,cond_true,cond_false,zap,zbo,Int.toNat_natCast,Bool.not_false,l0]
           repeat (refine And.intro (by omega) ?_)
           refine ⟨es.length - (i + 1),_,by omega,zag [0,1,2,3,4,5,167] rfl rfl rfl ?_ ?_,i + 1,_,rfl,by omega,hinv,by simp; omega,rfl⟩
           · simp only [ssT,zaj,zak,setSlot,gOf,AV.ren,renL,Blk.ren,Ax.look,Ax.put,reduceCtorEq,↓reduceIte,Nat.reduceEqDiff,Nat.reduceLT,Nat.reduceAdd,List.length_append,List.length_cons,List.length_nil,Option.some.injEq,List.length_append,List.length_cons,List.length_nil]
           · simp only [ssT,zaj,zak,setSlot,gOf,AV.ren,renL,Blk.ren,Ax.look,Ax.put,reduceCtorEq,↓reduceIte,Nat.reduceEqDiff,Nat.reduceLT,Nat.reduceAdd,List.length_append,List.length_cons,List.length_nil,Option.some.injEq,ren_bfr,hbsn]
             rw [← hbsn,ren_bfr]
       · have hem : emp6 (rs.map rv) = false := by cases rs with | nil => simp at hz | cons _ _ => rfl
         have hpos : 0 < rs.length := by omega
         have dpos : decide (0 < rs.length) = true := decide_eq_true hpos
         by_cases hE : empB ⟨b,c,p,e,s,qs⟩
         · have dE : decide (qs.length = 0 ∧ p = 0) = true := decide_eq_true hE
           rw [if_pos hE] at hinv
           simp only [go_sem,zac,Nat.reduceAdd,Nat.reduceSub,Nat.reduceMul,Int.reduceToNat,reduceCtorEq,↓reduceIte,Int.reducePow,Nat.reducePow,Int.reduceMod,Nat.reduceLeDiff,Int.reduceLE,Int.reduceNe,Int.reduceEq,Nat.reduceEqDiff,Nat.reduceLT,Nat.reduceBEq,List.map_cons,List.map_nil,List.toList_toArray,Array.toList_append,Option.toArray_some,Option.toArray_none,Bool.and_self,ty,Scln17,Ocln17,cln17Pl,cloneUS,del17S,emp17S,hcR,hlp,hml,hlr,hlqv,d3,hs1,hx,hr1,hem,hpos,dpos,hmx,hkv,hflt,dE,e1,cond_true,cond_false,zap,zbo,Int.toNat_natCast,Bool.not_true]
           repeat (refine And.intro (by omega) ?_)
           refine ⟨es.length - (i + 1),_,by omega,zag [0,1,2,3,4,5,6] rfl rfl rfl ?_ ?_,i + 1,a,rfl,by omega,hinv,by omega,rfl⟩
           · simp only [ssT,zaj,zak,setSlot,gOf,AV.ren,renL,Blk.ren,Ax.look,Ax.put,reduceCtorEq,↓reduceIte,Nat.reduceEqDiff,Nat.reduceLT,Nat.reduceAdd,List.length_append,List.length_cons,List.length_nil,Option.some.injEq]
           · simp only [ssT,zaj,zak,setSlot,gOf,AV.ren,renL,Blk.ren,Ax.look,Ax.put,reduceCtorEq,↓reduceIte,Nat.reduceEqDiff,Nat.reduceLT,Nat.reduceAdd,List.length_append,List.length_cons,List.length_nil,Option.some.injEq,ren_bfr]
         · have dE : decide (qs.length = 0 ∧ p = 0) = false := decide_eq_false hE
           rw [if_neg hE] at hinv
           simp only [go_sem,zac,Nat.reduceAdd,Nat.reduceSub,Nat.reduceMul,Int.reduceToNat,reduceCtorEq,↓reduceIte,Int.reducePow,Nat.reducePow,Int.reduceMod,Nat.reduceLeDiff,Int.reduceLE,Int.reduceNe,Int.reduceEq,Nat.reduceEqDiff,Nat.reduceLT,Nat.reduceBEq,List.map_cons,List.map_nil,List.toList_toArray,Array.toList_append,Option.toArray_some,Option.toArray_none,Bool.and_self,ty,Scln17,Ocln17,cln17Pl,cloneUS,del17S,emp17S,hcR,hlp,hml,hlr,hlqv,d3,hs1,hx,hr1,hem,hpos,dpos,hmx,hkv,hflt,dE,e1,cond_true,cond_false,zap,zbo,Int.toNat_natCast,Bool.not_false]
           repeat (refine And.intro (by omega) ?_)
           refine ⟨es.length - (i + 1),_,by omega,zag [0,1,2,3,4,5,167] rfl rfl rfl ?_ ?_,i + 1,_,rfl,by omega,hinv,by simp; omega,rfl⟩
           · simp only [ssT,zaj,zak,setSlot,gOf,AV.ren,renL,Blk.ren,Ax.look,Ax.put,reduceCtorEq,↓reduceIte,Nat.reduceEqDiff,Nat.reduceLT,Nat.reduceAdd,List.length_append,List.length_cons,List.length_nil,Option.some.injEq,List.length_append,List.length_cons,List.length_nil]
           · simp only [ssT,zaj,zak,setSlot,gOf,AV.ren,renL,Blk.ren,Ax.look,Ax.put,reduceCtorEq,↓reduceIte,Nat.reduceEqDiff,Nat.reduceLT,Nat.reduceAdd,List.length_append,List.length_cons,List.length_nil,Option.some.injEq,ren_bfr,hbsn]
             rw [← hbsn,ren_bfr]
     · have d3 : decide ((i : Int) < es.length) = false := decide_eq_false (by omega)
       have hdr : l.drop i = [] := List.drop_eq_nil_of_le (by omega)
       rw [hdr,List.foldl_nil] at hinv
       simp only [go_sem,zac,Nat.reduceAdd,Nat.reduceSub,Nat.reduceMul,Int.reduceToNat,reduceCtorEq,↓reduceIte,Int.reducePow,Nat.reducePow,Int.reduceMod,Nat.reduceLeDiff,Int.reduceLE,Int.reduceNe,Int.reduceEq,Nat.reduceEqDiff,Nat.reduceLT,Nat.reduceBEq,List.map_cons,List.map_nil,List.toList_toArray,Array.toList_append,Option.toArray_some,Option.toArray_none,Bool.and_self,ty,Scln17,Ocln17,cln17Pl,hlp,hml,d3]
       refine ⟨_,Weak.refl _,?_⟩
       simp only [go_sem,zac,Nat.reduceAdd,Nat.reduceSub,Nat.reduceMul,Int.reduceToNat,reduceCtorEq,↓reduceIte,Int.reducePow,Nat.reducePow,Int.reduceMod,Nat.reduceLeDiff,Int.reduceLE,Int.reduceNe,Int.reduceEq,Nat.reduceEqDiff,Nat.reduceLT,Nat.reduceBEq,List.map_cons,List.map_nil,List.toList_toArray,Array.toList_append,Option.toArray_some,Option.toArray_none,Bool.and_self,ty,Scln17,Ocln17,cln17Pl,hlp,hml,d3]
       have hdle : decide (0 + a.length ≤ (bfr a).length) = true := decide_eq_true (by omega)
       have htk : (bfr a).take a.length = bfr a := List.take_of_length_le (by omega)
       refine ⟨_,weak_fg 6 6 6 (bfr a) rfl (closed_bfr a) (by simp [slot,AV.ids]),?_⟩
       simp only [fgL,fgH,AV.fg,Blk.fg,Nat.reduceBEq,cond_true,cond_false,hdle,Bool.and_true,beq_self_eq_true,Bool.true_and,List.drop_zero,htk]
       rw [← hinv]
       simp only [go_sem,zac,Nat.reduceAdd,Nat.reduceSub,Nat.reduceMul,Int.reduceToNat,reduceCtorEq,↓reduceIte,Int.reducePow,Nat.reducePow,Int.reduceMod,Nat.reduceLeDiff,Int.reduceLE,Int.reduceNe,Int.reduceEq,Nat.reduceEqDiff,Nat.reduceLT,Nat.reduceBEq,List.map_cons,List.map_nil,List.toList_toArray,Array.toList_append,Option.toArray_some,Option.toArray_none,Bool.and_self,ty,closed_bfr,ren_bfr,cond_true]
 · exact hp.elim
end
end Go.Proofs.Ytckbejanaebjkaa
namespace Go.Proofs.Ytckbejanaebjkaa
open Ax
def isBk (xs : List AV) : Prop := ∃ es : List (Bat × Bool),xs = es.map bvp ∧ ∀ p ∈ es,p.1.rs.length ≤ 1000000
theorem isBk_isBs {xs : List AV} (h : isBk xs) : isBs xs := by
 obtain ⟨es,rfl,he⟩ := h
 exact ⟨es,rfl,fun p hp => by have := he p hp; omega⟩
theorem isBk_bfr {l : List Bat} (h : ∀ x ∈ l,x.rs.length ≤ 1000000) : isBk (bfr l) := ⟨l.map offB,rfl,fun p hp => by
 obtain ⟨x,hx,rfl⟩ := List.mem_map.1 hp
 exact h x hx⟩
theorem clnM_mem (M : KM) (now g : Int) (Q : Bat → Prop) (hQ : ∀ x,Q x → Q (clnB M now g x)) : ∀ (l a : List Bat),(∀ x ∈ l,Q x) → (∀ x ∈ a,Q x) → ∀ x ∈ l.foldl (clnS M now g) a,Q x
 | [],a,_,ha => ha
 | y :: l,a,hl,ha => by
   refine clnM_mem M now g Q hQ l _ (fun x hx => hl x (List.mem_cons_of_mem _ hx)) ?_
   intro x hx
   unfold clnS at hx
   split at hx
   · exact ha x hx
   · rcases List.mem_append.1 hx with h | h
     · exact ha x h
     · simp at h; subst h; exact hQ _ (hl y (List.mem_cons_self ..))
theorem clnL_small {l : List Bat} {now g : Int} (h : ∀ x ∈ l,x.rs.length ≤ 1000000) : ∀ x ∈ clnL l now g,x.rs.length ≤ 1000000 :=
 clnM_mem _ now g (fun x => x.rs.length ≤ 1000000) (fun x hx => Nat.le_trans (List.length_filter_le _ _) hx) l [] h (fun _ h => by cases h)
theorem clnL_len (l : List Bat) (now g : Int) : (clnL l now g).length ≤ l.length := by
 have := clnM_len (zbb l) now g l []
 simpa [clnL,clnM] using this
def cntL (l : List Bat) : Nat := l.foldl (fun n x => n + x.rs.length) 0
def dirL (l : List Bat) (now g : Int) : Bool := !(decide ((clnL l now g).length = l.length) && decide (cntL (clnL l now g) = cntL l))
def kpB (l : List Bat) (i k now g : Int) : Bool :=
 if 0 ≤ i ∧ 0 ≤ k then
   match l[i.toNat]? with
   | some x => match x.rs[k.toNat]? with
     | some r => zex (zbb l) x.b r now g
     | none => false
   | none => false
 else false
def cnt17S : zar
 | [.sg 6 xs f],[] => ⟨xs.length ≤ 1000000 ∧ isBk xs,.w (.int .i64 (cntL (xs.map ubat))),[]⟩
 | _,_ => zci
def dir17S : zar
 | [.sg 6 xs f,.w (.int .i64 now),.w (.int .i64 g)],[] => ⟨xs.length ≤ 1000000 ∧ isBk xs,.w (.bool (dirL (xs.map ubat) now g)),[]⟩
 | _,_ => zci
def kps17S : zar
 | [.sg 6 xs f,.w (.int .i64 i),.w (.int .i64 k),.w (.int .i64 now),.w (.int .i64 g)],[] => ⟨xs.length ≤ 1000000 ∧ isBk xs,.w (.bool (kpB (xs.map ubat) i k now g)),[]⟩
 | _,_ => zci
section
set_option maxRecDepth 100000
set_option maxHeartbeats 2000000 in
theorem cnt17_sound : zbm Try.prog 19 cnt17S := by
 refine zau (S := noS) (T := ty) zcj ty_ok zeh Try.func19 (c := Try.f19.body.getD .skip) (by kernel_rfl) (by kernel_rfl) (fun xs pins hp _ => ?_)
 unfold cnt17S at hp ⊢
 split at hp
 · rename_i xs f _
   obtain ⟨hL,es,rfl,he⟩ := hp
   simp only [List.length_map] at hL
   refine ⟨by simp,?_⟩
   have hlp : (es.map bvp).length = es.length := by simp
   rw [zct]
   obtain ⟨l,hl⟩ : ∃ l,es.map Prod.fst = l := ⟨_,rfl⟩
   have hel : ∀ x ∈ l,x.rs.length ≤ 1000000 := by
     intro x hx
     rw [← hl] at hx
     obtain ⟨p,hp,rfl⟩ := List.mem_map.1 hx
     exact he p hp
   have hlq : l.length = es.length := by subst hl; simp
   rw [hl]
   unfold Try.f19
   simp only [go_sem,zaa,Nat.reduceAdd,Nat.reduceSub,Nat.reduceMul,Int.reduceToNat,reduceCtorEq,↓reduceIte,Int.reducePow,Nat.reducePow,Int.reduceMod,Nat.reduceLeDiff,Int.reduceLE,Int.reduceNe,Int.reduceEq,Nat.reduceEqDiff,Nat.reduceLT,Nat.reduceBEq,ty,noS,hlp]
   refine zbj ⟨fun m σ => ∃ (i a : Nat),m = es.length - i ∧ i ≤ es.length ∧ a ≤ i * 1000000 ∧ cntL l = (l.drop i).foldl (fun n x => n + x.rs.length) a ∧
       σ = ⟨[.sg 6 (es.map bvp) f,.junk,.junk,.w (.int .i64 a),.junk,.junk,.sg 6 (es.map bvp) f,.w (.int .i64 es.length),.w (.int .i64 i),.junk,.junk,.junk,.junk,.junk,.junk,.junk,.junk,.junk,.junk],[],4⟩,?_,?_⟩
   · refine ⟨_,_,zag [0,1,2,3] rfl rfl rfl ?_ ?_,0,0,rfl,by omega,by omega,rfl,rfl⟩
     · simp only [ssT,zaj,zak,setSlot,gOf,AV.ren,renL,Blk.ren,Ax.look,Ax.put,reduceCtorEq,↓reduceIte,Nat.reduceEqDiff,Nat.reduceLT,Nat.reduceAdd,List.length_append,List.length_cons,List.length_nil,Option.some.injEq]; try simp
     · simp only [ssT,zaj,zak,setSlot,gOf,AV.ren,renL,Blk.ren,Ax.look,Ax.put,reduceCtorEq,↓reduceIte,Nat.reduceEqDiff,Nat.reduceLT,Nat.reduceAdd,List.length_append,List.length_cons,List.length_nil,Option.some.injEq]
   · rintro m σ ⟨i,a,rfl,hi,ha,hinv,rfl⟩
     have e1 : ((i : Int) + 1 + 9223372036854775808) % 18446744073709551616 - 9223372036854775808 = ((i + 1 : Nat) : Int) := by omega
     by_cases hil : i < es.length
     · have d3 : decide ((i : Int) < es.length) = true := decide_eq_true (by omega)
       have hs1 := zdc es i hil
       have m1 := he es[i] (List.getElem_mem hil)
       have hdr : l.drop i = es[i].1 :: l.drop (i + 1) := by
         rw [List.drop_eq_getElem_cons (by omega)]
         subst hl; simp
       obtain ⟨P,hP⟩ : ∃ P,es[i] = P := ⟨_,rfl⟩
       rw [hP] at hs1 m1 hdr
       rw [hdr,List.foldl_cons] at hinv
       obtain ⟨⟨b,c,p,e,s,rs⟩,f'⟩ := P
       have hs1 : slot (es.map bvp) i = .agg [.w (.int .i64 b),.w (.int .i64 c),.w (.int .i64 p),.w (.int .i64 e),.w (.int .i64 s),.sg 6 (rs.map rv) f'] := hs1
       simp only at m1 hinv
       have hlr : (rs.map rv).length = rs.length := by simp
       have e2 : ((a : Int) + (rs.length : Int) + 9223372036854775808) % 18446744073709551616 - 9223372036854775808 = ((a + rs.length : Nat) : Int) := by omega
       simp only [go_sem,zaa,Nat.reduceAdd,Nat.reduceSub,Nat.reduceMul,Int.reduceToNat,reduceCtorEq,↓reduceIte,Int.reducePow,Nat.reducePow,Int.reduceMod,Nat.reduceLeDiff,Int.reduceLE,Int.reduceNe,Int.reduceEq,Nat.reduceEqDiff,Nat.reduceLT,Nat.reduceBEq,ty,noS,hlp,hlr,d3,hs1,e1,e2,Int.toNat_natCast]
       repeat (refine And.intro (by omega) ?_)
       refine ⟨es.length - (i + 1),_,by omega,zag [0,1,2,3] rfl rfl rfl ?_ ?_,i + 1,a + rs.length,rfl,by omega,by omega,hinv,rfl⟩
       · simp only [ssT,zaj,zak,setSlot,gOf,AV.ren,renL,Blk.ren,Ax.look,Ax.put,reduceCtorEq,↓reduceIte,Nat.reduceEqDiff,Nat.reduceLT,Nat.reduceAdd,List.length_append,List.length_cons,List.length_nil,Option.some.injEq]
       · simp only [ssT,zaj,zak,setSlot,gOf,AV.ren,renL,Blk.ren,Ax.look,Ax.put,reduceCtorEq,↓reduceIte,Nat.reduceEqDiff,Nat.reduceLT,Nat.reduceAdd,List.length_append,List.length_cons,List.length_nil,Option.some.injEq]
     · have d3 : decide ((i : Int) < es.length) = false := decide_eq_false (by omega)
       have hdr : l.drop i = [] := List.drop_eq_nil_of_le (by omega)
       rw [hdr,List.foldl_nil] at hinv
       simp only [go_sem,zaa,Nat.reduceAdd,Nat.reduceSub,Nat.reduceMul,Int.reduceToNat,reduceCtorEq,↓reduceIte,Int.reducePow,Nat.reducePow,Int.reduceMod,Nat.reduceLeDiff,Int.reduceLE,Int.reduceNe,Int.reduceEq,Nat.reduceEqDiff,Nat.reduceLT,Nat.reduceBEq,ty,noS,hlp,d3,hinv]
 · exact hp.elim
def Sdir17 (f : FuncId) : Option zar :=
 match f with
 | 12 => some cln17S
 | 19 => some cnt17S
 | _ => none
theorem Sdir17_ok : Fns Try.prog Sdir17 := by
 intro f s h
 unfold Sdir17 at h
 split at h
 · injection h with h; subst h; exact ⟨⟨_,Try.func12,by kernel_rfl,by kernel_rfl⟩,cln17_sound⟩
 · injection h with h; subst h; exact ⟨⟨_,Try.func19,by kernel_rfl,by kernel_rfl⟩,cnt17_sound⟩
 · cases h
set_option maxHeartbeats 1000000 in
theorem dir17_sound : zbm Try.prog 16 dir17S := by
 refine zau (S := Sdir17) (T := ty) zcj ty_ok Sdir17_ok Try.func16 (c := Try.f16.body.getD .skip) (by kernel_rfl) (by kernel_rfl) (fun xs pins hp _ => ?_)
 unfold dir17S at hp ⊢
 split at hp
 · rename_i xs f now g _
   obtain ⟨hL,hxs⟩ := hp
   have hbk : (∃ es : List (Bat × Bool),xs = es.map bvp ∧ ∀ p ∈ es,p.1.rs.length ≤ 1000000) := hxs
   have hbk2 : isBk xs := hxs
   obtain ⟨es,rfl,he⟩ := hxs
   have hlp : (es.map bvp).length = es.length := by simp
   rw [hlp] at hL
   have mu := zct es
   rw [mu]
   obtain ⟨l,hl⟩ : ∃ l,es.map Prod.fst = l := ⟨_,rfl⟩
   rw [hl] at mu ⊢
   have hel : ∀ x ∈ l,x.rs.length ≤ 1000000 := by
     intro x hx
     rw [← hl] at hx
     obtain ⟨p,hp,rfl⟩ := List.mem_map.1 hx
     exact he p hp
   have hlq : l.length = es.length := by subst hl; simp
   have hcl := clnL_len l now g
   have hcs := isBk_bfr (clnL_small (now := now) (g := g) hel)
   have hdr : dirL l now g = !(decide ((clnL l now g).length = l.length) && decide (cntL (clnL l now g) = cntL l)) := rfl
   obtain ⟨C,hC⟩ : ∃ C,clnL l now g = C := ⟨_,rfl⟩
   rw [hC] at hcl hcs hdr
   have hlc := len_bfr C
   have huc := ubat_bfr C
   obtain ⟨n1,h1⟩ : ∃ n,cntL C = n := ⟨_,rfl⟩
   obtain ⟨n2,h2⟩ : ∃ n,cntL l = n := ⟨_,rfl⟩
   rw [h1,h2,hlq] at hdr
   refine ⟨by simp,?_⟩
   have hcB : ∀ h,coe ty 22 (.sg 6 (es.map bvp) h) = .sg 6 (es.map bvp) h := fun h => by cases es <;> rfl
   have hcC : ∀ h,coe ty 22 (.sg 6 (bfr C) h) = .sg 6 (bfr C) h := fun h => by cases C <;> rfl
   unfold Try.f16
   by_cases c1 : C.length = es.length
   · have d1 : decide ((C.length : Int) = es.length) = true := decide_eq_true (by omega)
     have d1' : decide (C.length = es.length) = true := decide_eq_true c1
     by_cases c2 : n1 = n2
     · have d2 : decide ((n1 : Int) = n2) = true := decide_eq_true (by omega)
       have d2' : decide (n1 = n2) = true := decide_eq_true c2
       rw [d1',d2'] at hdr
       simp only [go_sem,zaa,Nat.reduceAdd,Nat.reduceSub,Nat.reduceMul,Int.reduceToNat,reduceCtorEq,↓reduceIte,Int.reducePow,Nat.reducePow,Int.reduceMod,Nat.reduceLeDiff,Int.reduceLE,Int.reduceNe,Int.reduceEq,Nat.reduceEqDiff,Nat.reduceLT,Nat.reduceBEq,ty,Sdir17,cln17S,cnt17S,hcB,hcC,hlp,hlc,huc,mu,hC,hcs,hbk,hbk2,h1,h2,d1,d2,hdr,Bool.not_true,Bool.not_false,Bool.and_self]
       repeat (refine And.intro (by omega) ?_)
       first | rfl | omega | trivial
     · have d2 : decide ((n1 : Int) = n2) = false := decide_eq_false (by omega)
       have d2' : decide (n1 = n2) = false := decide_eq_false c2
       rw [d1',d2'] at hdr
       simp only [go_sem,zaa,Nat.reduceAdd,Nat.reduceSub,Nat.reduceMul,Int.reduceToNat,reduceCtorEq,↓reduceIte,Int.reducePow,Nat.reducePow,Int.reduceMod,Nat.reduceLeDiff,Int.reduceLE,Int.reduceNe,Int.reduceEq,Nat.reduceEqDiff,Nat.reduceLT,Nat.reduceBEq,ty,Sdir17,cln17S,cnt17S,hcB,hcC,hlp,hlc,huc,mu,hC,hcs,hbk,hbk2,h1,h2,d1,d2,hdr,Bool.not_true,Bool.not_false,Bool.and_self,Bool.and_false]
       repeat (refine And.intro (by omega) ?_)
       first | rfl | omega | trivial
   · have d1 : decide ((C.length : Int) = es.length) = false := decide_eq_false (by omega)
     have d1' : decide (C.length = es.length) = false := decide_eq_false c1
     rw [d1'] at hdr
     simp only [go_sem,zaa,Nat.reduceAdd,Nat.reduceSub,Nat.reduceMul,Int.reduceToNat,reduceCtorEq,↓reduceIte,Int.reducePow,Nat.reducePow,Int.reduceMod,Nat.reduceLeDiff,Int.reduceLE,Int.reduceNe,Int.reduceEq,Nat.reduceEqDiff,Nat.reduceLT,Nat.reduceBEq,ty,Sdir17,cln17S,cnt17S,hcB,hcC,hlp,hlc,huc,mu,hC,hcs,hbk,hbk2,h1,h2,d1,hdr,Bool.not_true,Bool.not_false,Bool.and_self,Bool.false_and]
     repeat (refine And.intro (by omega) ?_)
     first | rfl | omega | trivial
 · exact hp.elim
def Skps17 (f : FuncId) : Option zar :=
 match f with
 | 8 => some zdt
 | 20 => some stays17S
 | _ => none
theorem Skps17_ok : Fns Try.prog Skps17 := by
 intro f s h
 unfold Skps17 at h
 split at h
 · injection h with h; subst h; exact ⟨⟨_,Try.func8,by kernel_rfl,by kernel_rfl⟩,zei⟩
 · injection h with h; subst h; exact ⟨⟨_,Try.func20,by kernel_rfl,by kernel_rfl⟩,stays17_sound⟩
 · cases h
def kps17Pl : Plan := fun id => match id with
 | 3 => some [(2,13),(3,13),(6,13),(7,13),(8,13),(10,13),(11,13)]
 | _ => none
set_option maxHeartbeats 2000000 in
theorem kps17_sound : zbm Try.prog 10 kps17S := by
 refine fn_soundF (S := Skps17) (T := ty) (pl := kps17Pl) zcj ty_ok Skps17_ok Try.func10 (c := Try.f10.body.getD .skip) (by kernel_rfl) (by kernel_rfl) (fun xs pins hp _ => ?_)
 unfold kps17S at hp ⊢
 split at hp
 · rename_i xs f i k now g _
   obtain ⟨hL,hxs⟩ := hp
   have hbs := isBk_isBs hxs
   obtain ⟨es,rfl,he⟩ := hxs
   have hlp : (es.map bvp).length = es.length := by simp
   rw [hlp] at hL
   have mu := zct es
   rw [mu]
   obtain ⟨l,hl⟩ : ∃ l,es.map Prod.fst = l := ⟨_,rfl⟩
   rw [hl] at mu ⊢
   have hlq : l.length = es.length := by subst hl; simp
   refine ⟨by simp,?_⟩
   unfold Try.f10
   by_cases c1 : i < 0
   · have d1 : decide (i < 0) = true := decide_eq_true c1
     have hv : kpB l i k now g = false := by unfold kpB; rw [if_neg (by omega)]
     simp only [go_sem,zat,Nat.reduceAdd,Nat.reduceSub,Nat.reduceMul,Int.reduceToNat,reduceCtorEq,↓reduceIte,Int.reducePow,Nat.reducePow,Int.reduceMod,Nat.reduceLeDiff,Int.reduceLE,Int.reduceNe,Int.reduceEq,Nat.reduceEqDiff,Nat.reduceLT,Nat.reduceBEq,List.map_cons,List.map_nil,List.toList_toArray,Array.toList_append,Option.toArray_some,Option.toArray_none,Bool.and_self,ty,Skps17,kps17Pl,d1,hv]
     refine ⟨_,Weak.refl _,?_⟩
     simp only [go_sem,zat,Nat.reduceAdd,Nat.reduceSub,Nat.reduceMul,Int.reduceToNat,reduceCtorEq,↓reduceIte,Int.reducePow,Nat.reducePow,Int.reduceMod,Nat.reduceLeDiff,Int.reduceLE,Int.reduceNe,Int.reduceEq,Nat.reduceEqDiff,Nat.reduceLT,Nat.reduceBEq,List.map_cons,List.map_nil,List.toList_toArray,Array.toList_append,Option.toArray_some,Option.toArray_none,Bool.and_self,ty]
   · obtain ⟨I,rfl⟩ : ∃ I : Nat,i = I := ⟨i.toNat,by omega⟩
     have d1 : decide ((I : Int) < 0) = false := decide_eq_false c1
     by_cases c2 : I < es.length
     · have d2 : decide ((es.length : Int) ≤ I) = false := decide_eq_false (by omega)
       have hs1 := zdc es I c2
       have hgi : l[I]? = some es[I].1 := by
         rw [List.getElem?_eq_getElem (by omega)]; subst hl; simp
       obtain ⟨P,hP⟩ : ∃ P,es[I] = P := ⟨_,rfl⟩
       rw [hP] at hs1 hgi
       obtain ⟨⟨b,c,p,e,s,rs⟩,f'⟩ := P
       have hs1 : slot (es.map bvp) I = .agg [.w (.int .i64 b),.w (.int .i64 c),.w (.int .i64 p),.w (.int .i64 e),.w (.int .i64 s),.sg 6 (rs.map rv) f'] := hs1
       have hlr : (rs.map rv).length = rs.length := by simp
       by_cases c3 : k < 0
       · have d3 : decide (k < 0) = true := decide_eq_true c3
         have hv : kpB l (I : Int) k now g = false := by unfold kpB; rw [if_neg (by omega)]
         simp only [go_sem,zat,Nat.reduceAdd,Nat.reduceSub,Nat.reduceMul,Int.reduceToNat,reduceCtorEq,↓reduceIte,Int.reducePow,Nat.reducePow,Int.reduceMod,Nat.reduceLeDiff,Int.reduceLE,Int.reduceNe,Int.reduceEq,Nat.reduceEqDiff,Nat.reduceLT,Nat.reduceBEq,List.map_cons,List.map_nil,List.toList_toArray,Array.toList_append,Option.toArray_some,Option.toArray_none,Bool.and_self,ty,Skps17,kps17Pl,hlp,d1,d2,d3,hv]
         refine ⟨_,Weak.refl _,?_⟩
         simp only [go_sem,zat,Nat.reduceAdd,Nat.reduceSub,Nat.reduceMul,Int.reduceToNat,reduceCtorEq,↓reduceIte,Int.reducePow,Nat.reducePow,Int.reduceMod,Nat.reduceLeDiff,Int.reduceLE,Int.reduceNe,Int.reduceEq,Nat.reduceEqDiff,Nat.reduceLT,Nat.reduceBEq,List.map_cons,List.map_nil,List.toList_toArray,Array.toList_append,Option.toArray_some,Option.toArray_none,Bool.and_self,ty]
       · obtain ⟨K,rfl⟩ : ∃ K : Nat,k = K := ⟨k.toNat,by omega⟩
         have d3 : decide ((K : Int) < 0) = false := decide_eq_false c3
         by_cases c4 : K < rs.length
         · have d4 : decide ((rs.length : Int) ≤ K) = false := decide_eq_false (by omega)
           have hs2 := zbk rv rs K c4
           have hgk : rs[K]? = some rs[K] := List.getElem?_eq_getElem c4
           obtain ⟨R,hR⟩ : ∃ R,rs[K] = R := ⟨_,rfl⟩
           rw [hR] at hs2 hgk
           obtain ⟨d,t,kd,key,dd,val⟩ := R
           simp only [rv] at hs2
           obtain ⟨M,hM⟩ : ∃ M,zbb l = M := ⟨_,rfl⟩
           have hmx : ∃ m,kvA M = kvA m := ⟨M,rfl⟩
           have hkv := ukv_kvA M
           obtain ⟨V,hV⟩ : ∃ V,zex M b ⟨d,t,kd,key,dd,val⟩ now g = V := ⟨_,rfl⟩
           have hv : kpB l (I : Int) (K : Int) now g = V := by
             unfold kpB
             rw [if_pos (by omega),Int.toNat_natCast,Int.toNat_natCast,hgi]
             simp only [hgk]
             rw [hM,hV]
           have hcB : ∀ h,coe ty 22 (.sg 6 (es.map bvp) h) = .sg 6 (es.map bvp) h := fun h => by cases es <;> rfl
           simp only [go_sem,zat,Nat.reduceAdd,Nat.reduceSub,Nat.reduceMul,Int.reduceToNat,reduceCtorEq,↓reduceIte,Int.reducePow,Nat.reducePow,Int.reduceMod,Nat.reduceLeDiff,Int.reduceLE,Int.reduceNe,Int.reduceEq,Nat.reduceEqDiff,Nat.reduceLT,Nat.reduceBEq,List.map_cons,List.map_nil,List.toList_toArray,Array.toList_append,Option.toArray_some,Option.toArray_none,Bool.and_self,ty,Skps17,kps17Pl,zdt,stays17S,hcB,hlp,hlr,hbs,mu,hM,hmx,hkv,d1,d2,d3,d4,hs1,hs2,hV,hv,Int.toNat_natCast]
           repeat (refine And.intro (by omega) ?_)
           refine ⟨_,Weak.refl _,?_⟩
           simp only [go_sem,zat,Nat.reduceAdd,Nat.reduceSub,Nat.reduceMul,Int.reduceToNat,reduceCtorEq,↓reduceIte,Int.reducePow,Nat.reducePow,Int.reduceMod,Nat.reduceLeDiff,Int.reduceLE,Int.reduceNe,Int.reduceEq,Nat.reduceEqDiff,Nat.reduceLT,Nat.reduceBEq,List.map_cons,List.map_nil,List.toList_toArray,Array.toList_append,Option.toArray_some,Option.toArray_none,Bool.and_self,ty]
         · have d4 : decide ((rs.length : Int) ≤ K) = true := decide_eq_true (by omega)
           have hv : kpB l (I : Int) (K : Int) now g = false := by
             unfold kpB
             rw [if_pos (by omega),Int.toNat_natCast,Int.toNat_natCast,hgi]
             simp only [List.getElem?_eq_none (Nat.le_of_not_lt c4)]
           simp only [go_sem,zat,Nat.reduceAdd,Nat.reduceSub,Nat.reduceMul,Int.reduceToNat,reduceCtorEq,↓reduceIte,Int.reducePow,Nat.reducePow,Int.reduceMod,Nat.reduceLeDiff,Int.reduceLE,Int.reduceNe,Int.reduceEq,Nat.reduceEqDiff,Nat.reduceLT,Nat.reduceBEq,List.map_cons,List.map_nil,List.toList_toArray,Array.toList_append,Option.toArray_some,Option.toArray_none,Bool.and_self,ty,Skps17,kps17Pl,hlp,hlr,d1,d2,d3,d4,hs1,hv,Int.toNat_natCast]
           repeat (refine And.intro (by omega) ?_)
           refine ⟨_,Weak.refl _,?_⟩
           simp only [go_sem,zat,Nat.reduceAdd,Nat.reduceSub,Nat.reduceMul,Int.reduceToNat,reduceCtorEq,↓reduceIte,Int.reducePow,Nat.reducePow,Int.reduceMod,Nat.reduceLeDiff,Int.reduceLE,Int.reduceNe,Int.reduceEq,Nat.reduceEqDiff,Nat.reduceLT,Nat.reduceBEq,List.map_cons,List.map_nil,List.toList_toArray,Array.toList_append,Option.toArray_some,Option.toArray_none,Bool.and_self,ty]
     · have d2 : decide ((es.length : Int) ≤ I) = true := decide_eq_true (by omega)
       have hv : kpB l (I : Int) k now g = false := by
         unfold kpB
         split
         · rw [Int.toNat_natCast,List.getElem?_eq_none (by omega)]
         · rfl
       simp only [go_sem,zat,Nat.reduceAdd,Nat.reduceSub,Nat.reduceMul,Int.reduceToNat,reduceCtorEq,↓reduceIte,Int.reducePow,Nat.reducePow,Int.reduceMod,Nat.reduceLeDiff,Int.reduceLE,Int.reduceNe,Int.reduceEq,Nat.reduceEqDiff,Nat.reduceLT,Nat.reduceBEq,List.map_cons,List.map_nil,List.toList_toArray,Array.toList_append,Option.toArray_some,Option.toArray_none,Bool.and_self,ty,Skps17,kps17Pl,hlp,d1,d2,hv]
       refine ⟨_,Weak.refl _,?_⟩
       simp only [go_sem,zat,Nat.reduceAdd,Nat.reduceSub,Nat.reduceMul,Int.reduceToNat,reduceCtorEq,↓reduceIte,Int.reducePow,Nat.reducePow,Int.reduceMod,Nat.reduceLeDiff,Int.reduceLE,Int.reduceNe,Int.reduceEq,Nat.reduceEqDiff,Nat.reduceLT,Nat.reduceBEq,List.map_cons,List.map_nil,List.toList_toArray,Array.toList_append,Option.toArray_some,Option.toArray_none,Bool.and_self,ty]
 · exact hp.elim
end
end Go.Proofs.Ytckbejanaebjkaa
namespace Go.Proofs.Ytckbejanaebjkaa
open Ax
def okR17 (r : Rec) : Prop := 0 ≤ r.d ∧ r.d ≤ 1000
instance (r : Rec) : Decidable (okR17 r) := by unfold okR17; infer_instance
def okB17 (x : Bat) : Prop := (0 ≤ x.b ∧ x.b ≤ 4611686018427387903) ∧ ∀ r ∈ x.rs,okR17 r
instance (x : Bat) : Decidable (okB17 x) := by unfold okB17; infer_instance
def lgt17 (l : List Bat) : Prop := ((l.length : Int) ≤ 16 ∧ ∀ b ∈ l,lightB b) ∧ ∀ x ∈ l,okB17 x
instance (l : List Bat) : Decidable (lgt17 l) := by unfold lgt17; infer_instance
def lgt17S : zar
 | [.sg 6 xs f],[] => ⟨xs.length ≤ 9223372036854775807 ∧ isBs xs,.w (.bool (decide (lgt17 (xs.map ubat)))),[]⟩
 | _,_ => zci
def Slg17 (f : FuncId) : Option zar :=
 match f with
 | 17 => some lallS
 | _ => none
theorem Slg17_ok : Fns Try.prog Slg17 := by
 intro f s h
 unfold Slg17 at h
 split at h
 · injection h with h; subst h; exact ⟨⟨_,Try.func17,by kernel_rfl,by kernel_rfl⟩,lall_sound⟩
 · cases h
section
set_option maxRecDepth 100000
set_option maxHeartbeats 4000000 in
theorem lgt17_sound : zbm Try.prog 6 lgt17S := by
 refine zau (S := Slg17) (T := ty) zcj ty_ok Slg17_ok Try.func6 (c := Try.f6.body.getD .skip) (by kernel_rfl) (by kernel_rfl) (fun xs pins hp _ => ?_)
 unfold lgt17S at hp ⊢
 split at hp
 · rename_i xs f _
   obtain ⟨hL,hb⟩ := hp
   have hb0 := hb
   obtain ⟨es,rfl,he⟩ := hb
   refine ⟨by simp,?_⟩
   have hlp : (es.map bvp).length = es.length := by simp
   have hc1 : ∀ h,coe ty 22 (.sg 6 (es.map bvp) h) = .sg 6 (es.map bvp) h := fun h => by cases es <;> rfl
   have mu := zct es
   rw [mu]
   obtain ⟨l,hl⟩ : ∃ l,es.map Prod.fst = l := ⟨_,rfl⟩
   rw [hl] at mu ⊢
   have hlq : l.length = es.length := by subst hl; simp
   unfold Try.f6
   by_cases hA : (l.length : Int) ≤ 16 ∧ ∀ b ∈ l,lightB b
   · have dA : decide ((es.length : Int) ≤ 16 ∧ ∀ b ∈ l,lightB b) = true := by rw [← hlq]; exact decide_eq_true hA
     have h16 : es.length ≤ 16 := by have := hA.1; omega
     simp only [go_sem,zaa,Nat.reduceAdd,Nat.reduceSub,Nat.reduceMul,Int.reduceToNat,reduceCtorEq,↓reduceIte,Int.reducePow,Nat.reducePow,Int.reduceMod,Nat.reduceLeDiff,Int.reduceLE,Int.reduceNe,Int.reduceEq,Nat.reduceEqDiff,Nat.reduceLT,Nat.reduceBEq,ty,Slg17,lallS,hc1,hlp,hL,hb0,mu,dA,Bool.not_true]
     rw [hlp] at hL
     have hvt : (∀ x ∈ l,okB17 x) → decide (lgt17 l) = true := fun h => decide_eq_true ⟨hA,h⟩
     have hvf : ∀ x ∈ l,¬ okB17 x → decide (lgt17 l) = false := fun x hx h => decide_eq_false (fun h2 => h (h2.2 x hx))
     obtain ⟨V,hV⟩ : ∃ V,decide (lgt17 l) = V := ⟨_,rfl⟩
     rw [hV] at hvt hvf ⊢
     try refine And.intro (by omega) ?_
     refine zbj ⟨fun m σ => ∃ i : Nat,m = es.length - i ∧ i ≤ es.length ∧ (∀ j (h : j < es.length),j < i → okB17 es[j].1) ∧
         σ = ⟨[.sg 6 (es.map bvp) f,.junk,.junk,.w (.int .i64 i),.junk,.junk,.junk,.junk,.junk,.junk,.junk,.junk,.junk,.junk,.junk,.junk,.junk,.junk,.junk,.junk,.junk,.junk,.junk,.junk,.junk,.junk,.junk,.junk,.junk,.junk,.junk,.junk,.junk,.junk,.junk,.junk,.junk,.junk,.junk,.junk,.junk,.junk,.junk,.junk,.junk,.junk,.junk,.junk,.junk,.junk,.junk,.junk,.junk,.junk,.junk,.junk,.junk,.junk,.junk,.junk],[],4⟩,?_,?_⟩
     · refine ⟨_,_,zag [0,1,2,3] rfl rfl rfl ?_ ?_,0,rfl,by omega,by intro j _ h; omega,rfl⟩
       · simp only [ssT,zaj,zak,setSlot,gOf,AV.ren,renL,Blk.ren,Ax.look,Ax.put,reduceCtorEq,↓reduceIte,Nat.reduceEqDiff,Nat.reduceLT,Nat.reduceAdd,List.length_append,List.length_cons,List.length_nil,Option.some.injEq]; try simp
       · simp only [ssT,zaj,zak,setSlot,gOf,AV.ren,renL,Blk.ren,Ax.look,Ax.put,reduceCtorEq,↓reduceIte,Nat.reduceEqDiff,Nat.reduceLT,Nat.reduceAdd,List.length_append,List.length_cons,List.length_nil,Option.some.injEq]
     · rintro m σ ⟨i,rfl,hi,hall,rfl⟩
       have e1 : ((i : Int) + 1 + 9223372036854775808) % 18446744073709551616 - 9223372036854775808 = ((i + 1 : Nat) : Int) := by omega
       by_cases hil : i < es.length
       · have d1 : decide ((i : Int) < es.length) = true := decide_eq_true (by omega)
         have hs1 := zdc es i hil
         have m1 := he es[i] (List.getElem_mem hil)
         have hmem : es[i].1 ∈ l := by rw [← hl]; exact List.mem_map.2 ⟨_,List.getElem_mem hil,rfl⟩
         have h40 := (hA.2 _ hmem).1
         obtain ⟨P,hP⟩ : ∃ P,es[i] = P := ⟨_,rfl⟩
         rw [hP] at hs1 m1 hmem h40
         obtain ⟨⟨b,c,p,e,s,rs⟩,f'⟩ := P
         have hs1 : slot (es.map bvp) i = .agg [.w (.int .i64 b),.w (.int .i64 c),.w (.int .i64 p),.w (.int .i64 e),.w (.int .i64 s),.sg 6 (rs.map rv) f'] := hs1
         simp only at m1 hmem h40
         have hlr : (rs.map rv).length = rs.length := by simp
         by_cases c1 : b < 0
         · have d2 : decide (b < 0) = true := decide_eq_true c1
           have hv : V = false := hvf _ hmem (fun h => by have := h.1.1; simp only at this; omega)
           subst hv
           simp only [go_sem,zaa,Nat.reduceAdd,Nat.reduceSub,Nat.reduceMul,Int.reduceToNat,reduceCtorEq,↓reduceIte,Int.reducePow,Nat.reducePow,Int.reduceMod,Nat.reduceLeDiff,Int.reduceLE,Int.reduceNe,Int.reduceEq,Nat.reduceEqDiff,Nat.reduceLT,Nat.reduceBEq,ty,Slg17,hlp,hlr,d1,d2,hs1,Int.toNat_natCast]
           repeat (first | omega | refine And.intro (by omega) ?_)
         · have d2 : decide (b < 0) = false := decide_eq_false c1
           by_cases c2 : 4611686018427387903 < b
           · have d3 : decide (4611686018427387903 < b) = true := decide_eq_true c2
             have hv : V = false := hvf _ hmem (fun h => by have := h.1.2; simp only at this; omega)
             subst hv
             simp only [go_sem,zaa,Nat.reduceAdd,Nat.reduceSub,Nat.reduceMul,Int.reduceToNat,reduceCtorEq,↓reduceIte,Int.reducePow,Nat.reducePow,Int.reduceMod,Nat.reduceLeDiff,Int.reduceLE,Int.reduceNe,Int.reduceEq,Nat.reduceEqDiff,Nat.reduceLT,Nat.reduceBEq,ty,Slg17,hlp,hlr,d1,d2,d3,hs1,Int.toNat_natCast]
             repeat (first | omega | refine And.intro (by omega) ?_)
           · have d3 : decide (4611686018427387903 < b) = false := decide_eq_false c2
             simp only [go_sem,zaa,Nat.reduceAdd,Nat.reduceSub,Nat.reduceMul,Int.reduceToNat,reduceCtorEq,↓reduceIte,Int.reducePow,Nat.reducePow,Int.reduceMod,Nat.reduceLeDiff,Int.reduceLE,Int.reduceNe,Int.reduceEq,Nat.reduceEqDiff,Nat.reduceLT,Nat.reduceBEq,ty,Slg17,hlp,hlr,d1,d2,d3,hs1,Int.toNat_natCast]
             repeat (refine And.intro (by omega) ?_)
             refine zbj ⟨fun m σ => ∃ k : Nat,m = rs.length - k ∧ k ≤ rs.length ∧ (∀ j (h : j < rs.length),j < k → okR17 rs[j]) ∧
                 σ = ⟨[.sg 6 (es.map bvp) f,.junk,.junk,.w (.int .i64 i),.w (.int .i64 k),.junk,.junk,.junk,.junk,.junk,.junk,.junk,.junk,.junk,.junk,.junk,.junk,.junk,.junk,.junk,.junk,.junk,.junk,.junk,.junk,.junk,.junk,.junk,.junk,.junk,.junk,.junk,.junk,.junk,.junk,.junk,.junk,.junk,.junk,.junk,.junk,.junk,.junk,.junk,.junk,.junk,.junk,.junk,.junk,.junk,.junk,.junk,.junk,.junk,.junk,.junk,.junk,.junk,.junk,.junk],[],4⟩,?_,?_⟩
             · refine ⟨_,_,zag [0,1,2,3] rfl rfl rfl ?_ ?_,0,rfl,by omega,by intro j _ h; omega,rfl⟩
               · simp only [ssT,zaj,zak,setSlot,gOf,AV.ren,renL,Blk.ren,Ax.look,Ax.put,reduceCtorEq,↓reduceIte,Nat.reduceEqDiff,Nat.reduceLT,Nat.reduceAdd,List.length_append,List.length_cons,List.length_nil,Option.some.injEq]; try simp
               · simp only [ssT,zaj,zak,setSlot,gOf,AV.ren,renL,Blk.ren,Ax.look,Ax.put,reduceCtorEq,↓reduceIte,Nat.reduceEqDiff,Nat.reduceLT,Nat.reduceAdd,List.length_append,List.length_cons,List.length_nil,Option.some.injEq]
             · rintro m σ ⟨k,rfl,hk,hallk,rfl⟩
               by_cases hkl : k < rs.length
               · have e2 : ((k : Int) + 1 + 9223372036854775808) % 18446744073709551616 - 9223372036854775808 = ((k + 1 : Nat) : Int) := by omega
                 have d4 : decide ((k : Int) < rs.length) = true := decide_eq_true (by omega)
                 have hs2 := zbk rv rs k hkl
                 have hrm : rs[k] ∈ rs := List.getElem_mem hkl
                 obtain ⟨R,hR⟩ : ∃ R,rs[k] = R := ⟨_,rfl⟩
                 rw [hR] at hs2 hrm
                 obtain ⟨d,t,kd,key,dd,val⟩ := R
                 simp only [rv] at hs2
                 by_cases c4 : d < 0
                 · have d5 : decide (d < 0) = true := decide_eq_true c4
                   have hv : V = false := hvf _ hmem (fun h => by have := (h.2 _ hrm).1; simp only at this; omega)
                   subst hv
                   simp only [go_sem,zaa,Nat.reduceAdd,Nat.reduceSub,Nat.reduceMul,Int.reduceToNat,reduceCtorEq,↓reduceIte,Int.reducePow,Nat.reducePow,Int.reduceMod,Nat.reduceLeDiff,Int.reduceLE,Int.reduceNe,Int.reduceEq,Nat.reduceEqDiff,Nat.reduceLT,Nat.reduceBEq,ty,Slg17,hlp,hlr,d4,d5,hs1,hs2,Int.toNat_natCast]
                   repeat (first | omega | refine And.intro (by omega) ?_)
                 · have d5 : decide (d < 0) = false := decide_eq_false c4
                   by_cases c5 : 1000 < d
                   · have d6 : decide (1000 < d) = true := decide_eq_true c5
                     have hv : V = false := hvf _ hmem (fun h => by have := (h.2 _ hrm).2; simp only at this; omega)
                     subst hv
                     simp only [go_sem,zaa,Nat.reduceAdd,Nat.reduceSub,Nat.reduceMul,Int.reduceToNat,reduceCtorEq,↓reduceIte,Int.reducePow,Nat.reducePow,Int.reduceMod,Nat.reduceLeDiff,Int.reduceLE,Int.reduceNe,Int.reduceEq,Nat.reduceEqDiff,Nat.reduceLT,Nat.reduceBEq,ty,Slg17,hlp,hlr,d4,d5,d6,hs1,hs2,Int.toNat_natCast]
                     repeat (first | omega | refine And.intro (by omega) ?_)
                   · have d6 : decide (1000 < d) = false := decide_eq_false c5
                     simp only [go_sem,zaa,Nat.reduceAdd,Nat.reduceSub,Nat.reduceMul,Int.reduceToNat,reduceCtorEq,↓reduceIte,Int.reducePow,Nat.reducePow,Int.reduceMod,Nat.reduceLeDiff,Int.reduceLE,Int.reduceNe,Int.reduceEq,Nat.reduceEqDiff,Nat.reduceLT,Nat.reduceBEq,ty,Slg17,hlp,hlr,d4,d5,d6,hs1,hs2,e2,Int.toNat_natCast]
                     repeat (refine And.intro (by omega) ?_)
                     refine ⟨rs.length - (k + 1),_,by omega,zag [0,1,2,3] rfl rfl rfl ?_ ?_,k + 1,rfl,by omega,?_,rfl⟩
                     · simp only [ssT,zaj,zak,setSlot,gOf,AV.ren,renL,Blk.ren,Ax.look,Ax.put,reduceCtorEq,↓reduceIte,Nat.reduceEqDiff,Nat.reduceLT,Nat.reduceAdd,List.length_append,List.length_cons,List.length_nil,Option.some.injEq]
                     · simp only [ssT,zaj,zak,setSlot,gOf,AV.ren,renL,Blk.ren,Ax.look,Ax.put,reduceCtorEq,↓reduceIte,Nat.reduceEqDiff,Nat.reduceLT,Nat.reduceAdd,List.length_append,List.length_cons,List.length_nil,Option.some.injEq]
                     · intro j h hj
                       rcases Nat.lt_or_ge j k with h2 | h2
                       · exact hallk j h h2
                       · have : j = k := by omega
                         subst this
                         rw [hR]
                         refine ⟨?_,?_⟩ <;> (simp only; omega)
               · have d4 : decide ((k : Int) < rs.length) = false := decide_eq_false (by omega)
                 simp only [go_sem,zaa,Nat.reduceAdd,Nat.reduceSub,Nat.reduceMul,Int.reduceToNat,reduceCtorEq,↓reduceIte,Int.reducePow,Nat.reducePow,Int.reduceMod,Nat.reduceLeDiff,Int.reduceLE,Int.reduceNe,Int.reduceEq,Nat.reduceEqDiff,Nat.reduceLT,Nat.reduceBEq,ty,Slg17,hlp,hlr,d4,hs1,e1,Int.toNat_natCast]
                 repeat (refine And.intro (by omega) ?_)
                 refine ⟨es.length - (i + 1),_,by omega,zag [0,1,2,3] rfl rfl rfl ?_ ?_,i + 1,rfl,by omega,?_,rfl⟩
                 · simp only [ssT,zaj,zak,setSlot,gOf,AV.ren,renL,Blk.ren,Ax.look,Ax.put,reduceCtorEq,↓reduceIte,Nat.reduceEqDiff,Nat.reduceLT,Nat.reduceAdd,List.length_append,List.length_cons,List.length_nil,Option.some.injEq]
                 · simp only [ssT,zaj,zak,setSlot,gOf,AV.ren,renL,Blk.ren,Ax.look,Ax.put,reduceCtorEq,↓reduceIte,Nat.reduceEqDiff,Nat.reduceLT,Nat.reduceAdd,List.length_append,List.length_cons,List.length_nil,Option.some.injEq]
                 · intro j h hj
                   rcases Nat.lt_or_ge j i with h2 | h2
                   · exact hall j h h2
                   · have : j = i := by omega
                     subst this
                     rw [hP]
                     refine ⟨⟨by simp only; omega,by simp only; omega⟩,fun r hr => ?_⟩
                     obtain ⟨q,hq,rfl⟩ := List.getElem_of_mem hr
                     exact hallk q hq (by simp only at hq; omega)
       · have d1 : decide ((i : Int) < es.length) = false := decide_eq_false (by omega)
         have hv : V = true := hvt (fun x hx => by
           rw [← hl] at hx
           obtain ⟨q,hq,rfl⟩ := List.mem_map.1 hx
           obtain ⟨j,hj,rfl⟩ := List.getElem_of_mem hq
           exact hall j hj (by omega))
         subst hv
         simp only [go_sem,zaa,Nat.reduceAdd,Nat.reduceSub,Nat.reduceMul,Int.reduceToNat,reduceCtorEq,↓reduceIte,Int.reducePow,Nat.reducePow,Int.reduceMod,Nat.reduceLeDiff,Int.reduceLE,Int.reduceNe,Int.reduceEq,Nat.reduceEqDiff,Nat.reduceLT,Nat.reduceBEq,ty,Slg17,hlp,d1]
   · have dA : decide ((es.length : Int) ≤ 16 ∧ ∀ b ∈ l,lightB b) = false := by rw [← hlq]; exact decide_eq_false hA
     have hv : decide (lgt17 l) = false := decide_eq_false (fun h => hA h.1)
     simp only [go_sem,zaa,Nat.reduceAdd,Nat.reduceSub,Nat.reduceMul,Int.reduceToNat,reduceCtorEq,↓reduceIte,Int.reducePow,Nat.reducePow,Int.reduceMod,Nat.reduceLeDiff,Int.reduceLE,Int.reduceNe,Int.reduceEq,Nat.reduceEqDiff,Nat.reduceLT,Nat.reduceBEq,ty,Slg17,lallS,hc1,hlp,hL,hb0,mu,dA,hv,Bool.not_false]
     try omega
 · exact hp.elim
def of17S : zar
 | [.w (.int .i64 d),.str key],[] => ⟨True,.agg [.w (.int .i64 d),.w (.int .i64 0),.w (.bool true),.str key,.w (.bool false),.str [118]],[]⟩
 | _,_ => zci
theorem of17_sound : zbm Try.prog 18 of17S := by
 refine zau (S := noS) (T := ty) zcj ty_ok zeh Try.func18 (c := Try.f18.body.getD .skip) (by kernel_rfl) (by kernel_rfl) (fun xs pins hp _ => ?_)
 unfold of17S at hp ⊢
 split at hp
 · refine ⟨by simp,?_⟩
   unfold Try.f18
   simp only [go_sem,zaa,Nat.reduceAdd,Nat.reduceSub,Nat.reduceMul,Int.reduceToNat,reduceCtorEq,↓reduceIte,Int.reducePow,Nat.reducePow,Int.reduceMod,Nat.reduceLeDiff,Int.reduceLE,Int.reduceNe,Int.reduceEq,Nat.reduceEqDiff,Nat.reduceLT,Nat.reduceBEq,ty,noS,fillS]
 · exact hp.elim
end
end Go.Proofs.Ytckbejanaebjkaa
