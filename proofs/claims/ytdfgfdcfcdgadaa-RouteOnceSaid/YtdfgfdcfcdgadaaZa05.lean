/- What the proofs of this seat stand on; it asks nothing. -/
import Derived.Test.YtdfgfdcfcdgadaaZa04
set_option linter.unusedSimpArgs false
set_option linter.unusedVariables false
namespace Go.Proofs.Ytdfgfdcfcdgadaa
namespace Ax
theorem zfs : ∀ (sl : List AV) (d : Nat),setSlot sl d (slot sl d) = sl
 | [],_ => rfl
 | x :: xs,0 => rfl
 | x :: xs,n + 1 => by simp only [setSlot,slot]; rw [zfs xs n]
theorem zbd (sl : List AV) (d : Nat) (y : AV) : (setSlot sl d y).length = sl.length := by rw [zdk]; simp
theorem zdu (sl : List AV) (d : Option Tmp) (y : AV) : (zap sl d y).length = sl.length := by
 cases d with
 | none => rfl
 | some d => exact zbd sl d y
theorem zcl {sl : List AV} {d : Nat} {y : AV} (h : d < sl.length) : slot (setSlot sl d y) d = y := by
 rw [zdk,zcf]; simp [h]
theorem zbx {sl : List AV} {d t : Nat} {y : AV} (h : d ≠ t) : slot (setSlot sl d y) t = slot sl t := by
 rw [zdk,zcf,zcf]; simp [List.getElem?_set,h]
theorem zek {sl : List AV} {d : Nat} (h : sl.length ≤ d) : slot sl d = .junk := by
 rw [zcf]; simp [h]
theorem ydx {w : World} {loc : Loc} {sl : List AV} {a : Act} (hsz : a.tmps.size = sl.length) (hs : ∀ t,R w loc (slot sl t) (a.tmps.getD t undef)) (dst : Option Tmp) {x : AV} {v : Value} (hx : R w loc x v) :
  (a.put dst v).tmps.size = (zap sl dst x).length ∧ (∀ t,R w loc (slot (zap sl dst x) t) ((a.put dst v).tmps.getD t undef)) ∧ (a.put dst v).defers = a.defers := by
 cases dst with
 | none => exact ⟨hsz,hs,rfl⟩
 | some d =>
  refine ⟨by simp [Act.put,zdu,hsz],fun t => ?_,rfl⟩
  by_cases h : d = t
  ·subst h
   by_cases hd : d < sl.length
   ·simp only [zap]
    rw [zcl hd]
    have : (a.put (some d) v).tmps.getD d undef = v := by simp [Act.put,hsz,hd]
    rw [this]; exact hx
   ·simp only [zap]
    rw [zek (by rw [zbd]; exact Nat.le_of_not_lt hd)]
    exact .junk _
  ·simp only [zap]
   rw [zbx h]
   have : (a.put (some d) v).tmps.getD t undef = a.tmps.getD t undef := by simp [Act.put,Array.getElem?_setIfInBounds_ne h]
   rw [this]; exact hs t
theorem zgh {ops : Array Oper} {tmps : Array Value} {j : Nat} {d : Tmp} {b : Bool} (hd : guardSlot ops.toList j = some d) (hlt : d < tmps.size) (hv : tmps.getD d undef = .bool b) : yielded ops tmps j = some b := by
 unfold guardSlot at hd
 have : (ops[j]?).bind (·.dst) = some d := by
  rw [← Array.getElem?_toList]
  cases h : ops.toList[j]? with
  | none => rw [h] at hd; cases hd
  | some o => rw [h] at hd; simpa using hd
 unfold yielded
 rw [this]
 simp only [Option.bind_some]
 have h2 : tmps[d]? = some (.bool b) := by
  rw [Array.getElem?_eq_getElem hlt]
  simp [Array.getD,hlt] at hv
  rw [hv]
 rw [h2]
theorem zgu {w : World} {loc : Loc} : R w loc (.tup []) undef := .tup [] [] rfl (by simp)
theorem ydp {w : World} {loc : Loc} {v : Value} (h : R w loc (.tup []) v) : v = .tuple #[] := by
 cases h with
 | tup _ cs hl _ =>
  obtain rfl : cs = [] := List.eq_nil_of_length_eq_zero (by simpa using hl.symm)
  rfl
theorem zdz {ops : Array Oper} {tmps : Array Value} {j : Nat} {d : Tmp} (hd : guardSlot ops.toList j = some d) (hv : tmps.getD d undef = .tuple #[]) : yielded ops tmps j = none := by
 unfold guardSlot at hd
 have : (ops[j]?).bind (·.dst) = some d := by
  rw [← Array.getElem?_toList]
  cases h : ops.toList[j]? with
  | none => rw [h] at hd; cases hd
  | some o => rw [h] at hd; simpa using hd
 unfold yielded
 rw [this]
 simp only [Option.bind_some]
 cases h : tmps[d]? with
 | none => rfl
 | some v =>
  have : v = .tuple #[] := by
   rw [Array.getD_eq_getD_getElem?,h] at hv
   exact hv
  rw [this]
theorem zfv {w0 : World} {E : Nat → Prop} {loc loc' : Loc} {sl : List AV} {H : Heap} {nx : Nat} {a : Act} {w w' : World} {wr : Bool} {x : AV} {H' : Heap} {v : Value} (h : Rel' w0 E loc ⟨sl,H,nx⟩ a w) (hp : Post w0 E w loc wr nx x H' v w' loc') (hn : ∀ id b,look H' id = some b → look H id ≠ none ∨ (nx ≤ id ∧ id < nx + 8)) (dst : Option Tmp) :
  Rel' w0 E loc' ⟨zap sl dst x,H',nx + 8⟩ (a.put dst v) w' := by
 obtain ⟨C,hE,_⟩ := hp.ext
 obtain ⟨h1,h2,h3⟩ := ydx (w := w') (loc := loc') h.size (fun t => (h.slots t).ext hE) dst hp.r
 refine ⟨h1,h2,hp.h,hp.env,fun id hid => ?_,h3.trans h.defers,fun id b hl => ?_⟩
 ·have hf := h.fresh id (by simp at hid ⊢; omega)
  by_cases hn : loc'.m id = .free
  ·exact hn
  ·have := hp.fresh id hf hn
   simp at hid; omega
 ·rcases hn id b hl with h4 | h4
  ·cases h5 : look H id with
   | none => exact (h4 h5).elim
   | some c =>
    have := h.low id c h5
    simp at this ⊢; omega
  ·simp; omega
theorem zdc {P : Program} {w0 : World} {E : Nat → Prop} {T : zac} {S : zal} (hT : TOk P T) (hS : Fns P S) {ops : Array Oper} {K : Exit → Act → World → Prop} {Q : List AV → Heap → Prop} {B : Bs} {nz : Nat}
  (hK : ∀ sl H a w loc,Base w0 B w loc → Rel' w0 E loc ⟨sl,H,nz⟩ a w → Q sl H → K .normal a w) : ∀ (r : List Oper) (nm : Nat) (sl : List AV) (H : Heap) (a : Act) (w : World) (loc : Loc),nz = nm + 8 * r.length → Base w0 B w loc →
  Rel' w0 E loc ⟨sl,H,nm⟩ a w → aops S T ops.toList nm r sl H Q → wpList P ops K r a w
 | [],nm,sl,H,a,w,loc,hz,hb,hr,h => by
  simp only [List.length_nil,Nat.mul_zero,Nat.add_zero] at hz
  subst hz
  exact wpList_nil (hK sl H a w loc hb hr h)
 | o :: r,nm,sl,H,a,w,loc,hz,hb,hr,h => by
  have ih := zdc (ops := ops) hT hS hK r (nm + 8)
  have hz' : nz = nm + 8 + 8 * r.length := by simp at hz; omega
  have hop : ∀ (o' : Oper),(aop S T nm sl o'.op H).p → Sd P w0 E w loc (wrOf T sl o'.op) nm (aop S T nm sl o'.op H) o' a := fun o' hp =>
   zci hT hS hr.env hr.heap (fun id h1 _ => hr.fresh id h1) o' (fun x _ => ev_R hr.slots x) hp
  refine wpList_step fun Kn hKn => ?_
  unfold aops at h
  cases hg : o.guard with
  | none =>
   simp only [hg] at h
   obtain ⟨hp,hrest⟩ := h
   rw [if_pos (by simp [Region.wanted,hg])]
   refine hop o hp Kn K (fun v w' loc' hpost => hKn _ _ ?_)
   exact ih _ _ _ _ loc' hz' (hb.post hpost) (zfv hr hpost (zep hp) o.dst) hrest
  | some g =>
   obtain ⟨j,want⟩ := g
   simp only [hg] at h
   cases hgs : guardSlot ops.toList j with
   | none => simp only [hgs] at h
   | some d =>
    simp only [hgs] at h
    split at h
    ·rename_i b hsd
     have hval := hr.slots d
     simp only at hval
     rw [hsd] at hval
     have hval := hval.wv
     have hlt : d < a.tmps.size := by
      rw [hr.size]
      rcases Nat.lt_or_ge d sl.length with h' | h'
      ·exact h'
      ·rw [zek h'] at hsd; cases hsd
     have hy := zgh (ops := ops) hgs hlt hval
     have hw : (Region.wanted o (yielded ops a.tmps) = true) ↔ b = want := by simp [Region.wanted,hg,hy]
     have hsame : ∀ b',b = b' → setSlot sl d (.w (.bool b')) = sl := by
      rintro b' rfl
      have := zfs sl d
      rw [hsd] at this; exact this
     by_cases hbw : b = want
     ·obtain ⟨hp,hrest⟩ := h.1 hbw
      rw [hsame _ hbw] at hp hrest
      rw [if_pos (hw.2 hbw)]
      refine hop o hp Kn K (fun v w' loc' hpost => hKn _ _ ?_)
      exact ih _ _ _ _ loc' hz' (hb.post hpost) (zfv hr hpost (zep hp) o.dst) hrest
     ·have hb2 : b = !want := by cases b <;> cases want <;> simp_all
      have hrest := h.2 hb2
      rw [hsame _ hb2] at hrest
      rw [if_neg (fun hh => hbw (hw.1 hh))]
      refine hKn _ _ ?_
      refine ih _ _ _ _ loc hz' hb ?_ hrest
      exact zfv (wr := false) hr (Post.pure zgu hr.heap hr.env) (fun id b h => .inl (by rw [h]; simp)) o.dst
    ·rename_i hsd
     have hval := hr.slots d
     simp only at hval
     rw [hsd] at hval
     rw [if_neg (by simp [Region.wanted,hg,zdz hgs (ydp hval)])]
     refine hKn _ _ ?_
     refine ih _ _ _ _ loc hz' hb ?_ h
     exact zfv (wr := false) hr (Post.pure zgu hr.heap hr.env) (fun id b h => .inl (by rw [h]; simp)) o.dst
    ·exact h.elim
def zpg (P : Program) (S : zal) (T : zac) : Prop :=
 ∀ (w0 : World) (E : Nat → Prop) (l : List Oper) (K : Exit → Act → World → Prop) (Q : List AV → Heap → Prop) (B : Bs) (nm : Nat) (sl : List AV) (H : Heap) (a : Act) (w : World) (loc : Loc) (id : Nat),
  zlb T l = true → (∀ sl H a w loc,Base w0 B w loc → Rel' w0 E loc ⟨sl,H,nm + 8 * l.length⟩ a w → Q sl H → K .normal a w) → Base w0 B w loc →
  Rel' w0 E loc ⟨sl,H,nm⟩ a w → aops S T l nm l sl H Q → (Code.region id l.toArray true).wp P K a w
def Low (w0 : World) (E : Nat → Prop) (B : Bs) (Q : Exit → ASt → Prop) : Exit → Act → World → Prop := fun e a w => ∃ σ,Rel w0 E B σ a w ∧ Q e σ
theorem yir {p : Nat → Prop} : ∀ n,p n → ∃ m,p m ∧ m ≤ n ∧ ∀ k,p k → m ≤ k := by
 intro n
 induction n using Nat.strongRecOn with
 | _ n ih =>
  intro h
  by_cases hl : ∃ k,p k ∧ k < n
  ·obtain ⟨k,hk,hlt⟩ := hl
   obtain ⟨m,h1,h2,h3⟩ := ih k hlt hk
   exact ⟨m,h1,by omega,h3⟩
  ·refine ⟨n,h,Nat.le_refl _,fun k hk => ?_⟩
   rcases Nat.lt_or_ge k n with h' | h'
   ·exact (hl ⟨k,hk,h'⟩).elim
   ·exact h'
open Classical in
theorem ybx {P : Program} {w0 : World} {E : Nat → Prop} {T : zac} {S : zal} (hT : TOk P T) (hS : Fns P S) (hD : zpg P S T) {B : Bs} : ∀ (c : Code) (Q : Exit → ASt → Prop) (σ : ASt) (a : Act) (w : World),
  rawp S T c Q σ → Rel w0 E B σ a w → c.wp P (Low w0 E B Q) a w := by
 intro c
 induction c with
 | skip => intro Q σ a w h hr; exact wp_skip ⟨σ,hr,h⟩
 | label l => intro Q σ a w h hr; exact wp_label ⟨σ,hr,h⟩
 | ret => intro Q σ a w h hr; exact wp_ret ⟨σ,hr,h⟩
 | exit id => intro Q σ a w h hr; exact wp_exit ⟨σ,hr,h⟩
 | region id ops draw =>
  intro Q σ a w h hr
  obtain ⟨loc,hb,hr⟩ := hr
  obtain ⟨sl,H,nx⟩ := σ
  obtain ⟨hd,h⟩ := h
  have hK : ∀ sl H a w loc,Base w0 B w loc → Rel' w0 E loc ⟨sl,H,nx + 8 * ops.toList.length⟩ a w → regK (nx + 8 * ops.toList.length) Q sl H → Low w0 E B Q .normal a w := fun sl H a w loc h1 h2 h3 => ⟨_,⟨loc,h1,h2⟩,h3⟩
  cases draw with
  | false => exact wp_region_list (zdc hT hS hK ops.toList nx sl H a w loc rfl hb hr h)
  | true => exact hD w0 E ops.toList _ _ B nx sl H a w loc id (hd rfl) hK hb hr h
 | seq x y ihx ihy =>
  intro Q σ a w h hr
  refine wp_seq (wp_mono (ihx _ σ a w h hr) ?_)
  rintro e a' w' ⟨σ',hr',hq⟩
  cases e with
  | normal => exact ihy Q σ' a' w' hq hr'
  | _ => exact ⟨σ',hr',hq⟩
 | cond c x y ihx ihy =>
  intro Q σ a w h hr
  simp only [rawp] at h
  obtain ⟨loc,hb,hr⟩ := hr
  split at h
  ·rename_i t hc
   have hv := ev_R hr.slots c
   rw [hc] at hv
   have hv := hv.wv
   cases t with
   | true => exact wp_cond_true hv (ihx Q σ a w (h.1 rfl) ⟨loc,hb,hr⟩)
   | false => exact wp_cond_false hv (ihy Q σ a w (h.2 rfl) ⟨loc,hb,hr⟩)
  ·exact h.elim
 | block id c ih =>
  intro Q σ a w h hr
  refine wp_block (wp_mono (ih _ σ a w h hr) ?_)
  rintro e a' w' ⟨σ',hr',hq⟩
  cases e with
  | exit id' =>
   simp only [zgq,Exit.inBlock] at hq ⊢
   split at hq
   ·rename_i he; rw [if_pos he]; exact ⟨σ',hr',hq⟩
   ·rename_i he; rw [if_neg he]; exact ⟨σ',hr',hq⟩
  | _ => exact ⟨σ',hr',hq⟩
 | loop c ih =>
  intro Q σ a w h hr
  obtain ⟨I,⟨n0,σ0,hw0,hI0⟩,hround⟩ := h
  let p : Act → World → Nat → Prop := fun a w n => ∃ σ,Rel w0 E B σ a w ∧ I n σ
  have hleast : ∀ a w,(∃ n,p a w n) → ∃ m,p a w m ∧ ∀ k,p a w k → m ≤ k := fun a w ⟨n,hn⟩ => let ⟨m,h1,_,h3⟩ := yir n hn; ⟨m,h1,h3⟩
  let μ : Act → World → Nat := fun a w => if h : ∃ n,p a w n then Classical.choose (hleast a w h) else 0
  refine wp_loop (fun a w => ∃ n,p a w n) μ ⟨n0,σ0,hw0 w0 E B a w hr,hI0⟩ ?_
  intro a w hex
  have hμ : μ a w = Classical.choose (hleast a w hex) := dif_pos hex
  obtain ⟨⟨σ1,hr1,hI1⟩,hmin⟩ := Classical.choose_spec (hleast a w hex)
  rw [← hμ] at hI1
  refine wp_mono (ih _ σ1 a w (hround _ σ1 hI1) hr1) ?_
  rintro e a' w' ⟨σ',hr',hq⟩
  cases e with
  | normal =>
   obtain ⟨m,σ2,hlt,hw2,hI2⟩ := hq
   have hp : p a' w' m := ⟨σ2,hw2 w0 E B a' w' hr',hI2⟩
   refine ⟨⟨m,hp⟩,?_⟩
   have hμ' : μ a' w' = Classical.choose (hleast a' w' ⟨m,hp⟩) := dif_pos ⟨m,hp⟩
   have := (Classical.choose_spec (hleast a' w' ⟨m,hp⟩)).2 m hp
   rw [← hμ'] at this
   exact Nat.lt_of_le_of_lt this hlt
  | _ =>
   obtain ⟨σ2,hw2,hq⟩ := hq
   exact ⟨σ2,hw2 w0 E B a' w' hr',hq⟩
 | _ => intro Q σ a w h hr; exact h.elim
end Ax
end Go.Proofs.Ytdfgfdcfcdgadaa
namespace Go.Proofs.Ytdfgfdcfcdgadaa
namespace Ax
mutual
def AV.ids : AV → List Nat
 | .agg xs => idsL xs
 | .tup xs => idsL xs
 | .fn _ cs => idsL cs
 | .ms id _ _ _ => [id]
 | .rf id _ _ _ => [id]
 | _ => []
def idsL : List AV → List Nat
 | [] => []
 | x :: xs => x.ids ++ idsL xs
end
def newIds : List Nat → List Nat → List Nat
 | acc,[] => acc
 | acc,id :: r => bif acc.contains id then newIds acc r else newIds (acc ++ [id]) r
def upTo : Nat → List Blk → List Nat
 | _,[] => []
 | k,_ :: r => k :: upTo (k + 1) r
def pinHeap : Nat → List Blk → Heap
 | _,[] => []
 | k,b :: r => put (pinHeap (k + 1) r) k b
def rvals (T : zac) (H : Heap) (sl : List AV) : List ResultVar → Prop × List AV
 | [] => (True,[])
 | .tmp t :: r => ((rvals T H sl r).1,slot sl t :: (rvals T H sl r).2)
 | .cell a t :: r => ((aLoad T t (slot sl a) H).p ∧ (rvals T H sl r).1,(aLoad T t (slot sl a) H).x :: (rvals T H sl r).2)
def rone : List AV → AV
 | [x] => x
 | l => .tup l
def EndsX (pins : List Blk) (q : Res) (x : AV) (σ : ASt) : Prop :=
 nodup (newIds (upTo 0 pins) x.ids) = true ∧ (pinsOf σ.H (newIds (upTo 0 pins) x.ids)).1 ∧ (pinsOf σ.H (newIds (upTo 0 pins) x.ids)).2 = q.bl ∧ q.x.ren (gOf (newIds (upTo 0 pins) x.ids) σ.nx) = x
def Ends (T : zac) (rs : List ResultVar) (pins : List Blk) (q : Res) : Exit → ASt → Prop
 | .normal,σ => (rvals T σ.H σ.sl rs).1 ∧ EndsX pins q (rone (rvals T σ.H σ.sl rs).2) σ
 | .ret,σ => (rvals T σ.H σ.sl rs).1 ∧ EndsX pins q (rone (rvals T σ.H σ.sl rs).2) σ
 | _,_ => False
theorem zjk (g : Nat → Nat) (x : AV) : (x.ren g).leaf = x.leaf := by cases x <;> rfl
theorem ybc {w : World} {loc loc2 : Loc} {g : Nat → Nat} (hg : ∀ k,loc2.m k = loc.m (g k)) (hb : loc2.bad = loc.bad) {y : AV} {v : Value} (h : R w loc y v) : ∀ x : AV,x.ren g = y → R w loc2 x v := by
 have hM : ∀ b,Mut loc2 b → Mut loc b := by
  rintro b (h | ⟨k,h⟩)
  ·exact .inl (hb ▸ h)
  ·exact .inr ⟨g k,(hg k) ▸ h⟩
 have hC : ∀ {a cs},Cells w loc a cs → Cells w loc2 a cs := fun h => h.move (fun b _ hm => hM b hm)
 induction h with
 | w v h => intro x e; cases x <;> simp only [AV.ren] at e <;> cases e; exact .w v h
 | str bs => intro x e; cases x <;> simp only [AV.ren] at e <;> cases e; exact .str bs
 | agg xs cs hl hx _ ih =>
  intro x e
  cases x <;> simp only [AV.ren] at e <;> cases e
  rename_i ys _
  obtain ⟨h1,h2⟩ := zbg g ys
  refine .agg ys cs (by rw [← h1]; exact hl) (fun j hj => ?_) (fun j a b => ?_)
  ·have := hx j (by rw [h1]; exact hj)
   rw [h2 j (by rw [h1]; exact hj) hj,zjk] at this
   exact this
  ·exact ih j (by rw [h1]; exact a) b ys[j] (h2 j _ a).symm
 | tup xs cs hl _ ih =>
  intro x e
  cases x <;> simp only [AV.ren] at e <;> cases e
  rename_i ys _
  obtain ⟨h1,h2⟩ := zbg g ys
  refine .tup ys cs (by rw [← h1]; exact hl) (fun j a b => ?_)
  exact ih j (by rw [h1]; exact a) b ys[j] (h2 j _ a).symm
 | sb bs full a cap hd hc => intro x e; cases x <;> simp only [AV.ren] at e <;> cases e; exact .sb bs full a cap hd (hC hc)
 | si ns full a cap hd hc => intro x e; cases x <;> simp only [AV.ren] at e <;> cases e; exact .si ns full a cap hd (hC hc)
 | sg s xs full a cap cs hd hs hc hl hx h _ =>
  intro x e; cases x <;> simp only [AV.ren] at e <;> cases e
  exact .sg s xs full a cap cs hd hs (hC hc) hl hx (fun j a b => (h j a b).move (fun b _ hm => hM b hm) (hx j a).2)
 | cp ls a cs hc hn hl hx h _ =>
  intro x e; cases x <;> simp only [AV.ren] at e <;> cases e
  exact .cp ls a cs (hC hc) hn hl hx (fun j a b => (h j a b).move (fun b _ hm => hM b hm) (hx j a).2)
 | ms id s off len v h =>
  intro x e; cases x <;> simp only [AV.ren] at e <;> cases e
  refine .ms _ s off len v ?_
  unfold Owns at h ⊢
  rw [hg]; exact h
 | rf id s i f v h =>
  intro x e; cases x <;> simp only [AV.ren] at e <;> cases e
  refine .rf _ s i f v ?_
  unfold Points at h ⊢
  rw [hg]; exact h
 | fn f caps cs hl _ ih =>
  intro x e
  cases x <;> simp only [AV.ren] at e <;> cases e
  rename_i ys _
  obtain ⟨h1,h2⟩ := zbg g ys
  refine .fn f ys cs (by rw [← h1]; exact hl) (fun j a b => ?_)
  exact ih j (by rw [h1]; exact a) b ys[j] (h2 j _ a).symm
 | junk v =>
  intro x e; cases x <;> simp only [AV.ren] at e <;> cases e
  exact .junk v
mutual
theorem zdv {w : World} {loc : Loc} {id : Nat} : ∀ (x : AV) (v : Value),R w loc x v → id ∈ x.ids → loc.m id ≠ .free
 | .agg xs,v,h,hi => by
  cases h with
  | agg _ cs hl hx h => exact idsL_live xs cs hl h (by simpa [AV.ids] using hi)
 | .tup xs,v,h,hi => by
  cases h with
  | tup _ cs hl h => exact idsL_live xs cs hl h (by simpa [AV.ids] using hi)
 | .fn f xs,v,h,hi => by
  cases h with
  | fn _ _ cs hl h => exact idsL_live xs cs hl h (by simpa [AV.ids] using hi)
 | .ms id' s off len,v,h,hi => by
  obtain rfl : id = id' := by simpa [AV.ids] using hi
  cases h with
  | ms _ _ _ _ _ h => intro e; simp [Owns,e] at h
 | .rf id' s i f,v,h,hi => by
  obtain rfl : id = id' := by simpa [AV.ids] using hi
  cases h with
  | rf _ _ _ _ _ h => intro e; simp [Points,e] at h
 | .w _,_,_,hi => by simp [AV.ids] at hi
 | .str _,_,_,hi => by simp [AV.ids] at hi
 | .sb _ _,_,_,hi => by simp [AV.ids] at hi
 | .si _ _,_,_,hi => by simp [AV.ids] at hi
 | .sg _ _ _,_,_,hi => by simp [AV.ids] at hi
 | .cp _,_,_,hi => by simp [AV.ids] at hi
 | .junk,_,_,hi => by simp [AV.ids] at hi
theorem idsL_live {w : World} {loc : Loc} {id : Nat} : ∀ (xs : List AV) (vs : List Value),xs.length = vs.length → (∀ (j : Nat) (h : j < xs.length) (h' : j < vs.length),R w loc xs[j] vs[j]) → id ∈ idsL xs → loc.m id ≠ .free
 | [],_,_,_,hi => by simp [idsL] at hi
 | x :: xs,[],hl,_,_ => by simp at hl
 | x :: xs,v :: vs,hl,h,hi => by
  simp only [idsL,List.mem_append] at hi
  rcases hi with hi | hi
  ·exact zdv x v (h 0 (by simp) (by simp)) hi
  ·exact idsL_live xs vs (by simpa using hl) (fun j a b => h (j + 1) (by simpa using a) (by simpa using b)) hi
end
theorem zgk : ∀ (l acc : List Nat),(∃ t,newIds acc l = acc ++ t) ∧ ∀ id ∈ newIds acc l,id ∈ acc ∨ id ∈ l
 | [],acc => ⟨⟨[],by simp [newIds]⟩,fun id h => .inl h⟩
 | i :: r,acc => by
  unfold newIds
  cases hc : acc.contains i with
  | true =>
   obtain ⟨⟨t,h1⟩,h2⟩ := zgk r acc
   exact ⟨⟨t,h1⟩,fun id h => (h2 id h).imp_right (by simp; exact .inr)⟩
  | false =>
   obtain ⟨⟨t,h1⟩,h2⟩ := zgk r (acc ++ [i])
   refine ⟨⟨i :: t,by simp [h1]⟩,fun id h => ?_⟩
   rcases h2 id h with h | h
   ·rcases List.mem_append.1 h with h | h
    ·exact .inl h
    ·exact .inr (by simp at h; simp [h])
   ·exact .inr (by simp [h])
theorem zkc : ∀ (l : List Blk) (k : Nat),(upTo k l).length = l.length ∧ ∀ (j : Nat) (h : j < (upTo k l).length),(upTo k l)[j] = k + j
 | [],k => ⟨rfl,fun j h => by simp [upTo] at h⟩
 | b :: r,k => by
  obtain ⟨h1,h2⟩ := zkc r (k + 1)
  refine ⟨by simp [upTo,h1],fun j h => ?_⟩
  cases j with
  | zero => simp [upTo]
  | succ j =>
   have := h2 j (by simpa [upTo] using h)
   simp only [upTo,List.getElem_cons_succ]
   omega
theorem zbq : ∀ (l : List Blk) (k id : Nat) (b : Blk),look (pinHeap k l) id = some b → ∃ j,∃ h : j < l.length,id = k + j ∧ l[j] = b
 | [],k,id,b,h => by simp [pinHeap,look] at h
 | c :: r,k,id,b,h => by
  simp only [pinHeap] at h
  rw [zax] at h
  split at h
  ·rename_i e
   injection h with h
   exact ⟨0,by simp,by omega,by simpa using h⟩
  ·obtain ⟨j,hj,h1,h2⟩ := zbq r (k + 1) id b h
   exact ⟨j + 1,by simpa using hj,by omega,by simpa using h2⟩
theorem zwr {T : zac} {H : Heap} {P : Program} (hT : TOk P T) {w : World} {loc : Loc} (hh : HR w loc H) {sl : List AV} {tmps : Array Value} (hs : ∀ t,R w loc (slot sl t) (tmps.getD t undef)) : ∀ (rs : List ResultVar),(rvals T H sl rs).1 →
  ∃ vs : List Value,(rvals T H sl rs).2.length = vs.length ∧ (∀ (j : Nat) (h : j < (rvals T H sl rs).2.length) (h' : j < vs.length),R w loc (rvals T H sl rs).2[j] vs[j]) ∧
   (rs.mapM (m := Sem) fun | .tmp t => pure (tmps.getD t undef) | .cell a t => do loadVar t (← asAddr (tmps.getD a undef))).run P w = .ok vs w
 | [],_ => ⟨[],rfl,fun j h => by simp [rvals] at h,by simp⟩
 | .tmp t :: r,h => by
  obtain ⟨vs,h1,h2,h3⟩ := zwr hT hh hs r h
  refine ⟨tmps.getD t undef :: vs,by simp [rvals,h1],fun j a b => ?_,?_⟩
  ·cases j with
   | zero => exact hs t
   | succ j => exact h2 j (by simpa [rvals] using a) (by simpa using b)
  ·simp only [List.mapM_cons,Sem.run_bind,Sem.run_pure,Result.andThen_ok,h3]
 | .cell x t :: r,h => by
  obtain ⟨vs,h1,h2,h3⟩ := zwr hT hh hs r h.2
  obtain ⟨u,g1,g2,_⟩ := zqh (P := P) hT hh (hs x) h.1
  have hptr : ∃ q,tmps.getD x undef = .pointer (some q) := by
   have hx := hs x
   have hp := h.1
   unfold aLoad at hp
   generalize tmps.getD x undef = v at hx ⊢
   generalize slot sl x = y at hx hp
   cases ht : T t with
   | none => rw [ht] at hp; exact False.elim hp
   | some ti =>
    rw [ht] at hp
    simp only at hp
    cases hx with
    | cp ls a cs _ _ _ _ _ => exact ⟨a,rfl⟩
    | rf id s i f v h =>
     simp only at hp
     cases hl : look H id with
     | none => rw [hl] at hp; exact False.elim hp
     | some blk =>
      have hb := hh id blk hl
      unfold Points at h
      unfold BlkR at hb
      split at h
      ·exact h.elim
      ·rename_i e; rw [e] at hb; exact hb.elim
      ·exact h.elim
      ·rename_i b e
       rw [e] at hb
       simp only [hl,Out.and] at hp
       have hs0 : s ≠ 0 := by
        cases hm : zko ti blk with
        | true => simp only [hm,cond_true] at hp; omega
        | false => simp only [hm,cond_false] at hp; rw [hp.1.1]; exact Nat.ne_of_gt (zmu hb.1)
       rw [zbh hs0] at h
       exact ⟨_,h⟩
    | _ => exact False.elim hp
  obtain ⟨q,hq⟩ := hptr
  have g3 : (loadVar t q).run P w = .ok u w := by
   rw [hq] at g1
   simpa [Instr.loadAt,Instr.sureAddr] using g1
  have g4 : (do loadVar t (← asAddr (tmps.getD x undef)) : Sem Value).run P w = .ok u w := by
   rw [hq]; simpa [asAddr] using g3
  refine ⟨u :: vs,by simp [rvals,h1],fun j a b => ?_,?_⟩
  ·cases j with
   | zero => exact g2
   | succ j => exact h2 j (by simpa [rvals] using a) (by simpa using b)
  ·rw [List.mapM_cons,Sem.run_bind]
   refine (congrArg (fun r => Result.andThen r _) g4).trans ?_
   simp only [Result.andThen_ok,Sem.run_bind,h3,Sem.run_pure]
theorem zht {T : zac} {H : Heap} {P : Program} (hT : TOk P T) {fn : Func} {w : World} {loc : Loc} (hh : HR w loc H) {sl : List AV} {tmps : Array Value} (hs : ∀ t,R w loc (slot sl t) (tmps.getD t undef)) (h : (rvals T H sl fn.results.toList).1) :
  ∃ v,(results fn tmps).run P w = .ok v w ∧ R w loc (rone (rvals T H sl fn.results.toList).2) v := by
 obtain ⟨vs,h1,h2,h3⟩ := zwr hT hh hs fn.results.toList h
 have key : ∀ (A : Array ResultVar),(A.toList.mapM (m := Sem) fun | .tmp t => pure (tmps.getD t undef) | .cell a t => do loadVar t (← asAddr (tmps.getD a undef))).run P w = .ok vs w →
   (A.mapM (m := Sem) fun | .tmp t => pure (tmps.getD t undef) | .cell a t => do loadVar t (← asAddr (tmps.getD a undef))).run P w = .ok vs.toArray w := by
  rintro ⟨l⟩ h
  rw [List.mapM_toArray,← bind_pure_comp,Sem.run_bind]
  simp only at h
  rw [h]
  rfl
 have e : (results fn tmps).run P w = .ok (if h : vs.toArray.size = 1 then vs.toArray[0] else .tuple vs.toArray) w := by
  unfold results
  rw [Sem.run_bind]
  exact congrArg (fun r => Result.andThen r _) (key _ h3)
 refine ⟨_,e,?_⟩
 generalize (rvals T H sl fn.results.toList).2 = xs at h1 h2 ⊢
 match xs,vs,h1,h2 with
 | [],[],_,_ => exact .tup [] [] rfl (by simp)
 | [x],[v],_,h2 => exact h2 0 (by simp) (by simp)
 | x :: y :: xs,v :: u :: vs,hl,h2 =>
  rw [dif_neg (by simp)]
  exact .tup _ (v :: u :: vs) hl h2
theorem zch : ∀ {l : List Nat},l.Nodup → ∀ {i j : Nat} {hi : i < l.length} {hj : j < l.length},l[i] = l[j] → i = j
 | [],_,i,j,hi,_,_ => by simp at hi
 | x :: l,h,i,j,hi,hj,e => by
  rw [List.nodup_cons] at h
  cases i with
  | zero => cases j with
   | zero => rfl
   | succ j => exact (h.1 (by simp at e; rw [e]; exact List.getElem_mem _)).elim
  | succ i => cases j with
   | zero => exact (h.1 (by simp at e; rw [← e]; exact List.getElem_mem _)).elim
   | succ j =>
    have := zch h.2 (i := i) (j := j) (hi := by simpa using hi) (hj := by simpa using hj) (by simpa using e)
    omega
theorem ztf {P : Program} {T : zac} {S : zal} (hT : TOk P T) (hS : Fns P S) (hD : zpg P S T) {f : FuncId} {fn : Func} {c : Code} (hf : P.funcs[f]? = some fn) (hb : fn.body = some c) {spec : zcc} {Qp : List AV → List Blk → Exit → ASt → Prop}
  (hqp : ∀ xs pins e σ,Qp xs pins e σ → ∃ σ',Weak σ σ' ∧ Ends T fn.results.toList pins (spec xs pins) e σ')
  (h : ∀ xs pins,(spec xs pins).p → closedB pins = true → pins.length ≤ 4 ∧ rawp S T c (Qp xs pins) ⟨xs ++ List.replicate (fn.ntmps - xs.length) .junk,pinHeap 0 pins,4⟩) : zen P f spec := by
 intro xs pins hp hcl w bad pb vs hlen hnd hbad hlies hxl hx
 obtain ⟨hp4,h⟩ := h xs pins hp hcl
 refine calls_of_wp hf hb ?_
 have hrel : Rel w (· ∈ pb) ⟨bad,pb⟩ ⟨xs ++ List.replicate (fn.ntmps - xs.length) .junk,pinHeap 0 pins,4⟩ { tmps := vs.toArray ++ Array.replicate (fn.ntmps - vs.toArray.size) undef,defers := [] } w := by
  refine ⟨zbf pb bad,⟨⟨rfl,fun k hk cur e fz hh => ⟨cur,fz,hh,rfl⟩⟩,by simp only; omega,fun k hk => .inr ⟨by simp [zbf,List.getElem?_eq_getElem hk],fun cur e fz hh => ⟨cur,fz,hh,rfl⟩⟩⟩,?_⟩
  refine ⟨by simp [hxl],fun t => ?_,?_,?_,?_,rfl,fun id b hl => ?_⟩
  ·simp only
   rw [zcf]
   by_cases ht : t < xs.length
   ·have e1 : (xs ++ List.replicate (fn.ntmps - xs.length) AV.junk).getD t .junk = xs[t] := by simp [List.getElem?_append_left,ht]
    have e2 : (vs.toArray ++ Array.replicate (fn.ntmps - vs.toArray.size) undef).getD t undef = vs[t]'(by omega) := by
     have : t < vs.length := by omega
     simp [Array.getD_eq_getD_getElem?,Array.getElem?_append,this]
    rw [e1,e2]
    exact hx t ht _
   ·have e1 : (xs ++ List.replicate (fn.ntmps - xs.length) AV.junk).getD t .junk = .junk := by
     rw [List.getD_eq_getElem?_getD,List.getElem?_append_right (by omega),List.getElem?_replicate]
     split <;> rfl
    rw [e1]; exact .junk _
  ·intro id b hl
   obtain ⟨j,hj,rfl,rfl⟩ := zbq pins 0 id b hl
   have hj' : j < pb.length := by omega
   unfold BlkR
   have : (zbf pb bad).m (0 + j) = .here pb[j] := by simp [zbf,List.getElem?_eq_getElem hj']
   rw [this]
   exact hlies j hj hj'
  ·refine ⟨rfl,rfl,rfl,Nat.le_refl _,fun _ _ _ => rfl,?_,?_,?_⟩
   ·intro i j b hi hj
    obtain ⟨h1,h2⟩ := zcx hi
    obtain ⟨h3,h4⟩ := zcx hj
    exact zch hnd (h2.trans h4.symm)
   ·intro i b hi
    obtain ⟨h1,h2⟩ := zcx hi
    subst h2
    refine ⟨?_,.inr (List.getElem_mem h1)⟩
    obtain ⟨ob,hh⟩ := zio (hlies i (by omega) h1).2
    rcases Nat.lt_or_ge pb[i] w.heap.size with h' | h'
    ·exact h'
    ·rw [Array.getElem?_eq_none h'] at hh; cases hh
   ·exact fun b hb => hbad b hb
  ·intro id hid
   simp only at hid
   have : pb[id]? = none := List.getElem?_eq_none (by omega)
   simp [zbf,this]
  ·obtain ⟨j,hj,rfl,_⟩ := zbq pins 0 id b hl
   simp; omega
 refine wp_mono (ybx hT hS hD c _ _ _ w h hrel) ?_
 have main : ∀ a w' σ,Rel w (· ∈ pb) ⟨bad,pb⟩ σ a w' → (rvals T σ.H σ.sl fn.results.toList).1 ∧ EndsX pins (spec xs pins) (rone (rvals T σ.H σ.sl fn.results.toList).2) σ →
   a.defers = [] ∧ ∃ v,(results fn a.tmps).run P w' = .ok v w' ∧ ∃ v' loc',Ending.returned v = .returned v' ∧ ykf w bad pb (spec xs pins) v' w' loc' := by
  rintro a w' σ ⟨loc,hB,hr⟩ ⟨hrv,hnodup,hpin,hbl,hren⟩
  obtain ⟨v,hv,hR⟩ := zht (P := P) (fn := fn) hT hr.heap hr.slots hrv
  refine ⟨hr.defers,v,hv,v,?_⟩
  generalize rone (rvals T σ.H σ.sl fn.results.toList).2 = x at hnodup hpin hbl hren hR
  have hnd' := zee hnodup
  obtain ⟨hids1,hids2⟩ := zgk x.ids (upTo 0 pins)
  obtain ⟨hu1,hu2⟩ := zkc pins 0
  generalize hids : newIds (upTo 0 pins) x.ids = ids at hnodup hpin hbl hren hnd' hids1 hids2
  obtain ⟨hpl,hpc,hpg⟩ := zeu hpin
  rw [hbl] at hpl hpc hpg
  obtain ⟨t,rfl⟩ := hids1
  have hm : pins.length ≤ (upTo 0 pins ++ t).length := by simp [hu1]
  have hold : ∀ k,(hk : k < pins.length) → (upTo 0 pins ++ t)[k]'(by omega) = k := by
   intro k hk
   rw [List.getElem_append_left (by omega)]
   have := hu2 k (by omega)
   omega
  -- every one of the names is alive
  have hlive : ∀ (k : Nat) (hk : k < (upTo 0 pins ++ t).length),loc.m (upTo 0 pins ++ t)[k] ≠ .free := by
   intro k hk
   rcases hids2 _ (List.getElem_mem hk) with hi | hi
   ·obtain ⟨j,hj,he⟩ := List.getElem_of_mem hi
    rw [← he,hu2 j hj]
    have hj' : j < pb.length := by omega
    rcases hB.2.2 j hj' with h1 | ⟨h1,_⟩
    ·rw [Nat.zero_add,h1]; simp
    ·rw [Nat.zero_add,h1]; simp
   ·exact zdv x v hR hi
  have hblk : ∀ (k : Nat) (hk : k < (upTo 0 pins ++ t).length) (hk' : k < (spec xs pins).bl.length),BlkR w' loc (upTo 0 pins ++ t)[k] (spec xs pins).bl[k] := by
   intro k hk hk'
   refine hr.heap _ _ ?_
   rw [hpg k hk,List.getElem?_eq_getElem hk']
  have hdead : ∀ (k : Nat) (hk : k < (upTo 0 pins ++ t).length),loc.m (upTo 0 pins ++ t)[k] ≠ .dead := by
   intro k hk e
   have := hblk k hk (by omega)
   unfold BlkR at this
   rw [e] at this
   exact this
  let g : Nat → Nat := gOf (upTo 0 pins ++ t) σ.nx
  have hgo : ∀ k,(hk : k < (upTo 0 pins ++ t).length) → g k = (upTo 0 pins ++ t)[k] := fun k hk => zel hk
  have hgn : ∀ k,(upTo 0 pins ++ t).length ≤ k → loc.m (g k) = .free := by
   intro k hk
   refine hr.fresh _ ?_
   show σ.nx ≤ gOf _ σ.nx k
   rw [zdr hk]; omega
  let loc' : Loc := { m := fun k => loc.m (g k),bad := loc.bad }
  have hlt : ∀ i b,loc'.m i = .here b → i < (upTo 0 pins ++ t).length := by
   intro i b hi
   rcases Nat.lt_or_ge i (upTo 0 pins ++ t).length with h' | h'
   ·exact h'
   ·have : loc'.m i = .free := hgn i h'
    rw [this] at hi; cases hi
  have hinj : ∀ i j b,loc'.m i = .here b → loc'.m j = .here b → i = j := by
   intro i j b hi hj
   have h1 := hlt i b hi
   have h2 := hlt j b hj
   have h3 : g i = g j := hr.env.inj (g i) (g j) b hi hj
   rw [hgo i h1,hgo j h2] at h3
   exact zch hnd' h3
  have hpb : ∀ (k : Nat) (hk : k < pb.length),loc'.m k = .here pb[k] ∧ ∀ cur e fz,w.heap[pb[k]]? = some (.cells cur e fz) → ∃ cur' fz',w'.heap[pb[k]]? = some (.cells cur' e fz') ∧ cur'.size = cur.size := by
   intro k hk
   have hk1 : k < pins.length := by omega
   have e : loc'.m k = loc.m k := by
    show loc.m (g k) = loc.m k
    rw [hgo k (by omega),hold k hk1]
   rcases hB.2.2 k hk with h1 | ⟨h1,h2⟩
   ·have := hdead k (by omega)
    rw [hold k hk1] at this
    exact (this h1).elim
   ·exact ⟨e.trans h1,h2⟩
  refine ⟨loc',rfl,?_⟩
  refine ⟨ybc (loc2 := loc') (g := g) (fun _ => rfl) rfl hR _ hren,hB.1.1,?_,fun k hk => (hpb k hk).1,?_,?_,hinj,?_⟩
  ·intro k hk
   have hk' : k < (upTo 0 pins ++ t).length := by omega
   have e : loc'.m k = loc.m (upTo 0 pins ++ t)[k] := by show loc.m (g k) = _; rw [hgo k hk']
   refine ⟨?_,by rw [e]; exact hlive k hk',by rw [e]; exact hdead k hk'⟩
   have hb := hblk k hk' hk
   unfold BlkR at hb ⊢
   rw [e]
   split
   ·trivial
   ·rename_i e'; rw [e'] at hb; exact hb
   ·rename_i e'; rw [e'] at hb; exact hb
   ·rename_i b e'
    rw [e'] at hb
    refine ⟨hb.1,zfi hb.2 (zfo hpc k hk) (.inr ?_)⟩
    rintro c _ (h | ⟨i,h⟩)
    ·exact .inl h
    ·exact .inr ⟨g i,h⟩
  ·intro k b hk hkb
   have := hr.env.lies (g k) b hkb
   refine ⟨?_,this.1⟩
   rcases this.2 with h' | h'
   ·exact h'
   ·obtain ⟨j,hj,he⟩ := List.getElem_of_mem h'
    have h1 := (hpb j hj).1
    rw [he] at h1
    have := hinj k j b hkb h1
    omega
  ·intro k hk
   exact hgn k (by omega)
  ·refine ⟨hr.env.os,hr.env.tape,hr.env.output,hr.env.size,hr.env.same,?_⟩
   rintro b cur e fz hb hh
   obtain ⟨j,hj,rfl⟩ := List.getElem_of_mem hb
   exact (hpb j hj).2 cur e fz hh
 rintro e a w' ⟨σ0,hr0,hq0⟩
 obtain ⟨σ,hwk,hq⟩ := hqp xs pins e σ0 hq0
 have hr := hwk _ _ _ _ _ hr0
 cases e with
 | normal => exact main a w' σ hr hq
 | ret => exact main a w' σ hr hq
 | _ => exact hq.elim
def zyi (T : zac) (rs : List ResultVar) (pins : List Blk) (q : Res) : Exit → ASt → Prop := fun e σ => ∃ σ',Weak σ σ' ∧ Ends T rs pins q e σ'
theorem Weak.refl (σ : ASt) : Weak σ σ := fun _ _ _ _ _ h => h
end Ax
end Go.Proofs.Ytdfgfdcfcdgadaa
namespace Go.Proofs.Ytdfgfdcfcdgadaa
namespace Ax
theorem zie {j : Nat} : ∀ {l : List Edge},zxz j l = true → ∀ e ∈ l,Region.binds .any e = true → e.on < j
 | [],_,e,h,_ => by simp at h
 | c :: r,hb,e,h,hx => by
  simp only [zxz,Bool.and_eq_true,Bool.or_eq_true,Bool.not_eq_true',decide_eq_true_eq] at hb
  rcases List.mem_cons.1 h with h | h
  ·subst h
   rcases hb.1 with h' | h'
   ·rw [hx] at h'; cases h'
   ·exact h'
  ·exact zie hb.2 e h hx
theorem zlr {acc : List Nat} {i : Nat} : ∀ {l : List Edge},(ziy acc l).testBit i = true → ∃ e ∈ l,Region.binds .any e = true ∧ (e.on = i ∨ (acc.getD e.on 0).testBit i = true)
 | [],h => by simp [ziy] at h
 | e :: r,h => by
  unfold ziy at h
  cases hb : Region.binds .any e with
  | false =>
   rw [hb] at h
   obtain ⟨c,h1,h2⟩ := zlr h
   exact ⟨c,by simp [h1],h2⟩
  | true =>
   rw [hb] at h
   simp only [cond_true,Nat.testBit_or,Bool.or_eq_true] at h
   rcases h with h | h | h
   ·refine ⟨e,by simp,hb,.inl ?_⟩
    rw [Nat.shiftLeft_eq,Nat.one_mul,Nat.testBit_two_pow] at h
    simpa using h
   ·exact ⟨e,by simp,hb,.inr h⟩
   ·obtain ⟨c,h1,h2⟩ := zlr h
    exact ⟨c,by simp [h1],h2⟩
theorem znr {l : List Oper} : ∀ (r : List Oper) (acc : List Nat),l = l.take acc.length ++ r → acc.length + r.length = l.length →
  (∀ j i,(acc.getD j 0).testBit i = true → ∃ o,l[j]? = some o ∧ ∃ e ∈ o.after.toList,Region.binds .any e = true ∧ (e.on = i ∨ (acc.getD e.on 0).testBit i = true) ∧ (e.on < acc.length ∨ e.on = i)) →
  ∀ j i,((zgx acc r).getD j 0).testBit i = true → ∃ o,l[j]? = some o ∧ ∃ e ∈ o.after.toList,Region.binds .any e = true ∧ (e.on = i ∨ ((zgx acc r).getD e.on 0).testBit i = true)
 | [],acc,h1,h2,h,j,i,hb => by
  obtain ⟨o,ho,e,he,h3,h4,_⟩ := h j i hb
  exact ⟨o,ho,e,he,h3,h4⟩
 | o :: r,acc,h1,h2,h,j,i,hb => by
  have hlen : acc.length < l.length := by simp at h2; omega
  have hat : l[acc.length]? = some o := by
   rw [h1,List.getElem?_append_right (by simp; omega)]
   have : acc.length - (l.take acc.length).length = 0 := by simp; omega
   rw [this]; rfl
  have hext : ∀ k i,(acc.getD k 0).testBit i = true → ((acc ++ [ziy acc o.after.toList]).getD k 0).testBit i = true := by
   intro k i hk
   have : k < acc.length := by
    rcases Nat.lt_or_ge k acc.length with h' | h'
    ·exact h'
    ·simp [List.getD_eq_getElem?_getD,List.getElem?_eq_none h'] at hk
   simpa [List.getD_eq_getElem?_getD,List.getElem?_append_left this] using hk
  refine znr r (acc ++ [ziy acc o.after.toList]) ?_ (by simp at h2 ⊢; omega) ?_ j i (by simpa [zgx] using hb)
  ·rw [List.length_append,List.length_singleton,List.take_add_one,hat]
   rw [List.append_assoc]
   exact h1
  ·intro k i hk
   by_cases hkl : k < acc.length
   ·have : (acc.getD k 0).testBit i = true := by simpa [List.getD_eq_getElem?_getD,List.getElem?_append_left hkl] using hk
    obtain ⟨o',ho',e,he,h3,h4,h5⟩ := h k i this
    exact ⟨o',ho',e,he,h3,h4.imp_right (hext _ _),h5.imp_left (by simp; omega)⟩
   ·by_cases hke : k = acc.length
    ·subst hke
     have : (ziy acc o.after.toList).testBit i = true := by simpa [List.getD_eq_getElem?_getD] using hk
     obtain ⟨e,he,h3,h4⟩ := zlr this
     refine ⟨o,hat,e,he,h3,h4.imp_right (hext _ _),?_⟩
     rcases h4 with h4 | h4
     ·exact .inr h4
     ·left
      have : e.on < acc.length := by
       rcases Nat.lt_or_ge e.on acc.length with h' | h'
       ·exact h'
       ·simp [List.getD_eq_getElem?_getD,List.getElem?_eq_none h'] at h4
      simp; omega
    ·have : (acc ++ [ziy acc o.after.toList]).getD k 0 = 0 := by
      rw [List.getD_eq_getElem?_getD,List.getElem?_eq_none (by simp; omega)]; rfl
     rw [this] at hk
     simp at hk
theorem zbb {l : List Oper} {L : Nat → Prop} (hback : ∀ j o,l[j]? = some o → ∀ e ∈ o.after.toList,Region.binds .any e = true → e.on < j)
  (hcl : ∀ j o,l[j]? = some o → L j → ∀ e ∈ o.after.toList,Region.binds .any e = true → L e.on) : ∀ (n j i : Nat),j < n → ((zgx [] l).getD j 0).testBit i = true → ∀ o,l[j]? = some o → (∀ e ∈ o.after.toList,Region.binds .any e = true → L e.on) → L i := by
 intro n
 induction n with
 | zero => intro j i h; omega
 | succ n ih =>
  intro j i hj hb o ho hr
  obtain ⟨o',ho',e,he,h3,h4⟩ := znr (l := l) l [] (by simp) (by simp) (fun j i h => by simp at h) j i hb
  rw [ho] at ho'; injection ho' with ho'; subst ho'
  have hl := hr e he h3
  rcases h4 with h4 | h4
  ·rw [← h4]; exact hl
  ·have hlt := hback j o ho e he h3
   obtain ⟨o2,ho2,_⟩ := znr (l := l) l [] (by simp) (by simp) (fun j i h => by simp at h) e.on i h4
   exact ih e.on i (by omega) h4 o2 ho2 (hcl e.on o2 ho2 hl)
def step (S : zal) (T : zac) (ops : List Oper) (nm : Nat) (o : Oper) (s : List AV × Heap) : Prop × (List AV × Heap) :=
 match o.guard with
 | none => ((aop S T nm s.1 o.op s.2).p,(zap s.1 o.dst (aop S T nm s.1 o.op s.2).x,(aop S T nm s.1 o.op s.2).H))
 | some (j,want) => match guardSlot ops j with
  | none => (False,s)
  | some d => match slot s.1 d with
   | .w (.bool b) => if b = want then ((aop S T nm s.1 o.op s.2).p,(zap s.1 o.dst (aop S T nm s.1 o.op s.2).x,(aop S T nm s.1 o.op s.2).H)) else (True,(zap s.1 o.dst (.tup []),s.2))
   | .tup [] => (True,(zap s.1 o.dst (.tup []),s.2))
   | _ => (False,s)
def zbc (S : zal) (T : zac) (ops : List Oper) (nm : Nat) (s0 : List AV × Heap) : Nat → List AV × Heap
 | 0 => s0
 | k + 1 => match ops[k]? with
  | some o => (step S T ops (nm + 8 * k) o (zbc S T ops nm s0 k)).2
  | none => zbc S T ops nm s0 k
theorem zri {S : zal} {T : zac} {l : List Oper} {nm : Nat} {s0 : List AV × Heap} {Q : List AV → Heap → Prop} : ∀ (r : List Oper) (k : Nat),(∀ j,r[j]? = l[k + j]?) → k + r.length = l.length →
  aops S T l (nm + 8 * k) r (zbc S T l nm s0 k).1 (zbc S T l nm s0 k).2 Q →
  Q (zbc S T l nm s0 l.length).1 (zbc S T l nm s0 l.length).2 ∧ ∀ j o,k ≤ j → l[j]? = some o → (step S T l (nm + 8 * j) o (zbc S T l nm s0 j)).1
 | [],k,hr,hl,h => by
  simp at hl
  subst hl
  refine ⟨h,fun j o hj ho => ?_⟩
  rw [List.getElem?_eq_none hj] at ho; cases ho
 | o :: r,k,hr,hl,h => by
  have ho : l[k]? = some o := by simpa using (hr 0).symm
  have hr' : ∀ j,r[j]? = l[k + 1 + j]? := fun j => by have := hr (j + 1); simpa [Nat.add_assoc,Nat.add_comm 1 j] using this
  have hl' : k + 1 + r.length = l.length := by simp at hl; omega
  have hmain : (step S T l (nm + 8 * k) o (zbc S T l nm s0 k)).1 ∧ aops S T l (nm + 8 * (k + 1)) r (zbc S T l nm s0 (k + 1)).1 (zbc S T l nm s0 (k + 1)).2 Q := by
   have e : zbc S T l nm s0 (k + 1) = (step S T l (nm + 8 * k) o (zbc S T l nm s0 k)).2 := by simp only [zbc,ho]
   rw [e,show nm + 8 * (k + 1) = nm + 8 * k + 8 by omega]
   generalize zbc S T l nm s0 k = s at h ⊢
   unfold aops at h
   unfold step
   cases hg : o.guard with
   | none => simp only [hg] at h ⊢; exact h
   | some g =>
    obtain ⟨j,want⟩ := g
    simp only [hg] at h ⊢
    cases hgs : guardSlot l j with
    | none => simp only [hgs] at h
    | some d =>
     simp only [hgs] at h ⊢
     split at h
     ·rename_i b hsd
      simp only [hsd]
      have hsame : ∀ b',b = b' → setSlot s.1 d (.w (.bool b')) = s.1 := by
       rintro b' rfl
       have := zfs s.1 d
       rw [hsd] at this; exact this
      by_cases hbw : b = want
      ·have h := h.1 hbw
       rw [hsame _ hbw] at h
       rw [if_pos hbw]; exact h
      ·have hb2 : b = !want := by cases b <;> cases want <;> simp_all
       have h := h.2 hb2
       rw [hsame _ hb2] at h
       rw [if_neg hbw]; exact ⟨trivial,h⟩
     ·rename_i hsd
      simp only [hsd]
      exact ⟨trivial,h⟩
     ·exact h.elim
  obtain ⟨h1,h2⟩ := zri r (k + 1) hr' hl' hmain.2
  refine ⟨h1,fun j o' hj ho' => ?_⟩
  rcases Nat.lt_or_ge k j with h' | h'
  ·exact h2 j o' h' ho'
  ·obtain rfl : j = k := by omega
   rw [ho] at ho'; injection ho' with ho'; subst ho'
   exact hmain.1
section
variable {S : zal} {T : zac} {l : List Oper} {nm : Nat} {s0 : List AV × Heap}
theorem ylr {b : Bool} {x y n : Nat} (hx : x ≤ n) (hy : y ≤ n) : (bif b then x else y) ≤ n := by cases b <;> assumption
theorem zfj (T : zac) (op : Op) : zai T op ≤ 2 := by
 unfold zai
 repeat' split
 all_goals repeat' (first | omega | apply ylr)
theorem zet {k : Nat} {o : Oper} {s : List AV × Heap} (hp : (step S T l (nm + 8 * k) o s).1) :
  (∃ x,(step S T l (nm + 8 * k) o s).2.1 = zap s.1 o.dst x) ∧ Hnew (nm + 8 * k) s.2 ⟨True,.junk,(step S T l (nm + 8 * k) o s).2.2⟩ ∧
  (zai T o.op ≤ 1 → ∀ id,¬ (nm + 8 * k ≤ id ∧ id < nm + 8 * k + 8) → look (step S T l (nm + 8 * k) o s).2.2 id = look s.2 id) ∧
  (zai T o.op = 0 → (step S T l (nm + 8 * k) o s).2.2 = s.2) := by
 have hplain : (aop S T (nm + 8 * k) s.1 o.op s.2).p → Hnew (nm + 8 * k) s.2 ⟨True,.junk,(aop S T (nm + 8 * k) s.1 o.op s.2).H⟩ ∧
   (zai T o.op ≤ 1 → ∀ id,¬ (nm + 8 * k ≤ id ∧ id < nm + 8 * k + 8) → look (aop S T (nm + 8 * k) s.1 o.op s.2).H id = look s.2 id) ∧
   (zai T o.op = 0 → (aop S T (nm + 8 * k) s.1 o.op s.2).H = s.2) := by
  intro hp
  refine ⟨fun _ => zep hp,fun hk id hid => ?_,fun hk => (zno (H := s.2) hk hp).2.2⟩
  exact zxf hk hp id hid
 have hskip : Hnew (nm + 8 * k) s.2 ⟨True,.junk,s.2⟩ := fun _ id b h => .inl (by simp only at h; rw [h]; simp)
 unfold step at hp ⊢
 cases hg : o.guard with
 | none =>
  simp only [hg] at hp ⊢
  obtain ⟨h1,h2,h3⟩ := hplain hp
  exact ⟨⟨_,rfl⟩,h1,h2,h3⟩
 | some g =>
  obtain ⟨j,want⟩ := g
  simp only [hg] at hp ⊢
  cases hgs : guardSlot l j with
  | none => simp [hgs] at hp
  | some d =>
   simp only [hgs] at hp ⊢
   cases hsd : slot s.1 d with
   | w v =>
    cases v with
    | bool b =>
     simp only [hsd] at hp ⊢
     by_cases hbw : b = want
     ·rw [if_pos hbw] at hp ⊢
      obtain ⟨h1,h2,h3⟩ := hplain hp
      exact ⟨⟨_,rfl⟩,h1,h2,h3⟩
     ·rw [if_neg hbw] at hp ⊢
      exact ⟨⟨_,rfl⟩,hskip,fun _ _ _ => rfl,fun _ => rfl⟩
    | _ => simp [hsd] at hp
   | tup xs =>
    cases xs with
    | nil =>
     simp only [hsd] at hp ⊢
     exact ⟨⟨_,rfl⟩,hskip,by simp,by simp⟩
    | cons _ _ => simp [hsd] at hp
   | _ => simp [hsd] at hp
variable (hst : ∀ j o,l[j]? = some o → (step S T l (nm + 8 * j) o (zbc S T l nm s0 j)).1)
include hst
theorem zea : ∀ k,(zbc S T l nm s0 k).1.length = s0.1.length
 | 0 => rfl
 | k + 1 => by
  simp only [zbc]
  split
  ·rename_i o ho
   obtain ⟨⟨x,hx⟩,_⟩ := zet (hst k o ho)
   rw [hx,zdu,zea k]
  ·exact zea k
theorem zpy {t : Tmp} {i k : Nat} (hik : i ≤ k) (h : ∀ j o,i ≤ j → j < k → l[j]? = some o → o.dst ≠ some t) : slot (zbc S T l nm s0 k).1 t = slot (zbc S T l nm s0 i).1 t := by
 induction k with
 | zero => obtain rfl : i = 0 := by omega
           rfl
 | succ k ih =>
   by_cases hk : i = k + 1
   · rw [hk]
   · rw [← ih (by omega) (fun j o h1 h2 h3 => h j o h1 (by omega) h3)]
     simp only [zbc]
     split
     · rename_i o ho
       obtain ⟨⟨x,hx⟩,_⟩ := zet (hst k o ho)
       rw [hx]
       have := h k o (by omega) (by omega) ho
       cases hd : o.dst with
       | none => rfl
       | some d => exact zbx (fun e => this (by rw [hd,e]))
     · rfl
theorem zho (h0 : ∀ id b,look s0.2 id = some b → id < nm) : ∀ k id b,look (zbc S T l nm s0 k).2 id = some b → id < nm + 8 * k
 | 0,id,b,h => by simpa using h0 id b h
 | k + 1,id,b,h => by
  simp only [zbc] at h
  split at h
  ·rename_i o ho
   obtain ⟨_,hn,_⟩ := zet (hst k o ho)
   rcases hn trivial id b h with h' | h'
   ·cases h2 : look (zbc S T l nm s0 k).2 id with
    | none => exact (h' h2).elim
    | some c => have := zho h0 k id c h2; omega
   ·omega
  ·have := zho h0 k id b h; omega
theorem ybf {id i k : Nat} (hik : i ≤ k) {b : Blk} (hl : look (zbc S T l nm s0 k).2 id = some b) :
   look (zbc S T l nm s0 i).2 id ≠ none ∨ ∃ j o,i ≤ j ∧ j < k ∧ l[j]? = some o ∧ zai T o.op ≠ 0 ∧ nm + 8 * j ≤ id ∧ id < nm + 8 * j + 8 := by
 induction k generalizing b with
 | zero => obtain rfl : i = 0 := by omega
           exact .inl (by rw [hl]; simp)
 | succ k ih =>
   by_cases hk : i = k + 1
   · subst hk; exact .inl (by rw [hl]; simp)
   · simp only [zbc] at hl
     split at hl
     · rename_i o ho
       obtain ⟨_,hn,_,h0⟩ := zet (hst k o ho)
       by_cases hz : zai T o.op = 0
       · rw [h0 hz] at hl
         rcases ih (by omega) hl with h | ⟨j,o,h1,h2,h3⟩
         · exact .inl h
         · exact .inr ⟨j,o,h1,by omega,h3⟩
       rcases hn trivial id b hl with h' | h'
       · cases h2 : look (zbc S T l nm s0 k).2 id with
         | none => exact (h' h2).elim
         | some c =>
           rcases ih (by omega) h2 with h | ⟨j,o,h1,h2,h3⟩
           · exact .inl h
           · exact .inr ⟨j,o,h1,by omega,h3⟩
       · exact .inr ⟨k,o,by omega,by omega,ho,hz,h'⟩
     · rcases ih (by omega) hl with h | ⟨j,o,h1,h2,h3⟩
       · exact .inl h
       · exact .inr ⟨j,o,h1,by omega,h3⟩
theorem zlk {id i k : Nat} (hik : i ≤ k) (hn : ∀ j o,i ≤ j → j < k → l[j]? = some o → zai T o.op ≤ 1 ∧ (zai T o.op = 0 ∨ ¬ (nm + 8 * j ≤ id ∧ id < nm + 8 * j + 8))) :
   look (zbc S T l nm s0 k).2 id = look (zbc S T l nm s0 i).2 id := by
 induction k with
 | zero => obtain rfl : i = 0 := by omega
           rfl
 | succ k ih =>
   by_cases hk : i = k + 1
   · rw [hk]
   · rw [← ih (by omega) (fun j o h1 h2 h3 => hn j o h1 (by omega) h3)]
     simp only [zbc]
     split
     · rename_i o ho
       obtain ⟨_,_,h1,h0⟩ := zet (hst k o ho)
       obtain ⟨h2,h3⟩ := hn k o (by omega) (by omega) ho
       rcases h3 with h3 | h3
       · rw [h0 h3]
       · exact h1 h2 id h3
     · rfl
end
def Ls (listed : Array Bool) (i : Nat) : Prop := listed.getD i false = true
theorem zkp {listed : Array Bool} {i j : Nat} (hi : i < listed.size) : Ls (listed.setIfInBounds i true) j ↔ j = i ∨ Ls listed j := by
 unfold Ls
 by_cases h : j = i
 ·subst h; simp [hi]
 ·have : (listed.setIfInBounds i true).getD j false = listed.getD j false := getD_set_ne false (fun e => h e.symm)
  rw [this]; simp [h]
theorem zid : ∀ (l : List Bool) (i : Nat),l.getD i true = false → (l.set i true).count false + 1 = l.count false
 | [],i,h => by simp at h
 | b :: r,0,h => by
  obtain rfl : b = false := by simpa using h
  simp
 | b :: r,i + 1,h => by
  have := zid r i (by simpa using h)
  simp only [List.set_cons_succ,List.count_cons]
  omega
section
variable {P : Program} {S : zal} {T : zac} {l : List Oper} {nm : Nat} {s0 : List AV × Heap} {w0 : World} {E : Nat → Prop} {B : Bs}
structure Inv (S : zal) (T : zac) (l : List Oper) (nm : Nat) (s0 : List AV × Heap) (w0 : World) (E : Nat → Prop) (B : Bs) (listed : Array Bool) (a : Act) (w : World) (loc : Loc) : Prop where
 sizel : listed.size = l.length
 size : a.tmps.size = s0.1.length
 slots : ∀ t k,k ≤ l.length → (∀ i o,l[i]? = some o → o.dst = some t → (Ls listed i ↔ i < k)) → R w loc (slot (zbc S T l nm s0 k).1 t) (a.tmps.getD t undef)
 heap : ∀ k,k ≤ l.length → (∀ i o,l[i]? = some o → zai T o.op = 2 → (Ls listed i ↔ i < k)) → HR w loc (zbc S T l nm s0 k).2
 closed : ∀ j o,l[j]? = some o → Ls listed j → ∀ e ∈ o.after.toList,Region.binds .any e = true → Ls listed e.on
 fresh : ∀ i,¬ Ls listed i → i < l.length → ∀ id,nm + 8 * i ≤ id → id < nm + 8 * i + 8 → loc.m id = .free
 high : ∀ id,nm + 8 * l.length ≤ id → loc.m id = .free
 env : Env w0 E w loc
 base : Base w0 B w loc
 defers : a.defers = []
structure Good (T : zac) (l : List Oper) : Prop where
 back : ∀ j o,l[j]? = some o → ∀ e ∈ o.after.toList,Region.binds .any e = true → e.on < j
 clash : ∀ i j x y,i < j → l[i]? = some x → l[j]? = some y → clash T l x y = true → ((zgx [] l).getD j 0).testBit i = true
theorem yll (h : zlb T l = true) : Good T l := by
 unfold zlb at h
 have h := List.all_eq_true.1 h
 have hlt : ∀ {j : Nat} {o : Oper},l[j]? = some o → j < l.length := fun h => (List.getElem?_eq_some_iff.1 h).1
 refine ⟨fun j o ho => ?_,fun i j x y hij hx hy hc => ?_⟩
 ·have := h j (List.mem_range.2 (hlt ho))
  simp only [ho,Bool.and_eq_true] at this
  exact zie this.1
 ·have := h j (List.mem_range.2 (hlt hy))
  simp only [hy,Bool.and_eq_true] at this
  have := List.all_eq_true.1 this.2 i (List.mem_range.2 hij)
  simp only [hx,hc,Bool.not_true,Bool.false_or] at this
  exact this
theorem zvf {x y : Oper} {d : Tmp} (hd : x.dst = some d) (h : d ∈ y.looksAt l.toArray ∨ y.dst = some d) : clash T l x y = true := by
 unfold clash
 rw [hd]
 rcases h with h | h
 ·simp [h]
 ·simp [h]
theorem yda {x y : Oper} {d : Tmp} (hd : y.dst = some d) (h : d ∈ x.looksAt l.toArray) : clash T l x y = true := by
 unfold clash
 rw [hd]
 simp [h]
theorem zgo {x y : Oper} (h : (zai T x.op = 2 ∧ zai T y.op ≠ 0) ∨ (zai T y.op = 2 ∧ zai T x.op ≠ 0)) : clash T l x y = true := by
 unfold clash
 rcases h with ⟨h1,h2⟩ | ⟨h1,h2⟩
 ·simp [h1,h2]
 ·simp [h1,h2]
variable {listed : Array Bool} {a : Act} {w : World} {loc : Loc} {i : Nat} {o : Oper}
theorem yip (hg : Good T l) (inv : Inv S T l nm s0 w0 E B listed a w loc) (ho : l[i]? = some o) (hnl : ¬ Ls listed i) (hrd : ∀ e ∈ o.after.toList,Region.binds .any e = true → Ls listed e.on) {t : Tmp} (ht : t ∈ o.looksAt l.toArray) :
  R w loc (slot (zbc S T l nm s0 i).1 t) (a.tmps.getD t undef) := by
 have hlt : i < l.length := (List.getElem?_eq_some_iff.1 ho).1
 refine inv.slots t i (by omega) (fun j x hx hd => ⟨fun hl => ?_,fun hji => ?_⟩)
 ·rcases Nat.lt_trichotomy j i with h | h | h
  ·exact h
  ·subst h; exact (hnl hl).elim
  ·exact (hnl (zbb hg.back inv.closed _ j i (Nat.lt_succ_self _) (hg.clash i j o x h ho hx (yda hd ht)) x hx (inv.closed j x hx hl))).elim
 ·exact zbb hg.back inv.closed _ i j (Nat.lt_succ_self _) (hg.clash j i x o hji hx ho (zvf hd (.inl ht))) o ho hrd
theorem zsc (hg : Good T l) (inv : Inv S T l nm s0 w0 E B listed a w loc) (ho : l[i]? = some o) (hnl : ¬ Ls listed i) (hrd : ∀ e ∈ o.after.toList,Region.binds .any e = true → Ls listed e.on) (hk : zai T o.op ≠ 0) :
  HR w loc (zbc S T l nm s0 i).2 := by
 have hlt : i < l.length := (List.getElem?_eq_some_iff.1 ho).1
 refine inv.heap i (by omega) (fun j x hx hd => ⟨fun hl => ?_,fun hji => ?_⟩)
 ·rcases Nat.lt_trichotomy j i with h | h | h
  ·exact h
  ·subst h; exact (hnl hl).elim
  ·exact (hnl (zbb hg.back inv.closed _ j i (Nat.lt_succ_self _) (hg.clash i j o x h ho hx (zgo (.inr ⟨hd,hk⟩))) x hx (inv.closed j x hx hl))).elim
 ·exact zbb hg.back inv.closed _ i j (Nat.lt_succ_self _) (hg.clash j i x o hji hx ho (zgo (.inl ⟨hd,hk⟩))) o ho hrd
theorem ymh (hg : Good T l) (hst : ∀ j o,l[j]? = some o → (step S T l (nm + 8 * j) o (zbc S T l nm s0 j)).1) (h0 : ∀ id b,look s0.2 id = some b → id < nm) (inv : Inv S T l nm s0 w0 E B listed a w loc) (ho : l[i]? = some o) (hnl : ¬ Ls listed i)
  (hrd : ∀ e ∈ o.after.toList,Region.binds .any e = true → Ls listed e.on) {x : AV} {v : Value} {w' : World} {loc' : Loc} {C : Nat → Prop}
  (hv : (step S T l (nm + 8 * i) o (zbc S T l nm s0 i)).2.1 = zap (zbc S T l nm s0 i).1 o.dst x) (hx : R w' loc' x v) (hE : Ext C w loc w' loc') (hC : zai T o.op ≤ 1 → ∀ id,¬ C id)
  (hfr : ∀ id,loc.m id = .free → loc'.m id ≠ .free → nm + 8 * i ≤ id ∧ id < nm + 8 * i + 8) (he : Env w0 E w' loc') (hb : Base w0 B w' loc') (hh : zai T o.op ≠ 0 → HR w' loc' (step S T l (nm + 8 * i) o (zbc S T l nm s0 i)).2.2) :
  Inv S T l nm s0 w0 E B (listed.setIfInBounds i true) (a.put o.dst v) w' loc' := by
 have hlt : i < l.length := (List.getElem?_eq_some_iff.1 ho).1
 have his : i < listed.size := by rw [inv.sizel]; exact hlt
 have hls : ∀ j,Ls (listed.setIfInBounds i true) j ↔ j = i ∨ Ls listed j := fun j => zkp his
 have htr : zbc S T l nm s0 (i + 1) = (step S T l (nm + 8 * i) o (zbc S T l nm s0 i)).2 := by simp only [zbc,ho]
 have hanc : ∀ j y,l[j]? = some y → i < j → Ls listed j → clash T l o y = true → False := fun j y hy hij hl hc =>
  hnl (zbb hg.back inv.closed _ j i (Nat.lt_succ_self _) (hg.clash i j o y hij ho hy hc) y hy (inv.closed j y hy hl))
 refine ⟨by simp [inv.sizel],?_,?_,?_,?_,?_,?_,he,hb,?_⟩
 ·cases o.dst with
  | none => exact inv.size
  | some d => simp [Act.put,inv.size]
 ·intro t k hk hq
  by_cases hd : o.dst = some t
  ·have hik : i < k := (hq i o ho hd).1 ((hls i).2 (.inl rfl))
   have e1 : slot (zbc S T l nm s0 k).1 t = slot (zbc S T l nm s0 (i + 1)).1 t := by
    refine zpy hst (by omega) (fun j y h1 h2 hy hyd => ?_)
    have := (hls j).1 ((hq j y hy hyd).2 h2)
    rcases this with h | h
    ·omega
    ·exact hanc j y hy (by omega) h (zvf hd (.inr hyd))
   rw [e1,htr,hv,hd]
   simp only [zap]
   by_cases hts : t < (zbc S T l nm s0 i).1.length
   ·rw [zcl hts]
    have : (a.put (some t) v).tmps.getD t undef = v := by
     rw [zea hst] at hts
     simp [Act.put,inv.size,hts]
    rw [this]; exact hx
   ·rw [zek (by rw [zbd]; exact Nat.le_of_not_lt hts)]; exact .junk _
  ·have h1 := inv.slots t k hk (fun j y hy hyd => by
    have hji : j ≠ i := by
     rintro rfl
     rw [ho] at hy; injection hy with hy; subst hy; exact hd hyd
    rw [← hq j y hy hyd,hls]
    simp [hji])
   have : (a.put o.dst v).tmps.getD t undef = a.tmps.getD t undef := by
    cases hdd : o.dst with
    | none => rfl
    | some d =>
     have hne : d ≠ t := fun e => hd (by rw [hdd,e])
     simp [Act.put,Array.getElem?_setIfInBounds_ne hne]
   rw [this]; exact h1.ext hE
 ·intro k hk hq id b hl
  by_cases hf' : loc'.m id = .free
  ·exact BlkR.free hf'
  by_cases h2 : zai T o.op = 2
  ·have hik : i < k := (hq i o ho h2).1 ((hls i).2 (.inl rfl))
   have hno : ∀ j y,i + 1 ≤ j → j < k → l[j]? = some y → zai T y.op ≤ 1 ∧ (zai T y.op = 0 ∨ ¬ (nm + 8 * j ≤ id ∧ id < nm + 8 * j + 8)) := by
    intro j y h3 h4 hy
    have hle : zai T y.op ≤ 2 :=zfj T y.op
    have hne : zai T y.op ≠ 2 := by
     intro hy2
     rcases (hls j).1 ((hq j y hy hy2).2 h4) with h | h
     ·omega
     ·exact hanc j y hy (by omega) h (zgo (.inl ⟨h2,by omega⟩))
    refine ⟨by omega,?_⟩
    by_cases hy0 : zai T y.op = 0
    ·exact .inl hy0
    ·right
     intro hr
     have hjl : ¬ Ls listed j := fun hl => hanc j y hy (by omega) hl (zgo (.inl ⟨h2,hy0⟩))
     have hfree := inv.fresh j hjl (by omega) id hr.1 hr.2
     have := hfr id hfree hf'
     omega
   rw [zlk hst (by omega) hno,htr] at hl
   exact hh (by omega) id b hl
  ·have hold : HR w loc (zbc S T l nm s0 k).2 := inv.heap k hk (fun j y hy hy2 => by
    have hji : j ≠ i := by
     rintro rfl
     rw [ho] at hy; injection hy with hy; subst hy; exact h2 hy2
    rw [← hq j y hy hy2,hls]
    simp [hji])
   have hle : zai T o.op ≤ 1 := by
    have : zai T o.op ≤ 2 :=zfj T o.op
    omega
   by_cases hf : loc.m id = .free
   ·have hr := hfr id hf hf'
    have hik : i < k := by
     rcases Nat.lt_or_ge i k with h | h
     ·exact h
     ·have := zho hst h0 k id b hl; omega
    by_cases hz : zai T o.op = 0
    ·exfalso
     rcases ybf hst (i := i + 1) (by omega) hl with h | ⟨j,y,h3,_,_,_,h4,_⟩
     ·rw [htr,(zet (hst i o ho)).2.2.2 hz] at h
      cases h5 : look (zbc S T l nm s0 i).2 id with
      | none => exact h h5
      | some c => have := zho hst h0 i id c h5; omega
     ·omega
    ·have hno : ∀ j y,i + 1 ≤ j → j < k → l[j]? = some y → zai T y.op ≤ 1 ∧ (zai T y.op = 0 ∨ ¬ (nm + 8 * j ≤ id ∧ id < nm + 8 * j + 8)) := by
      intro j y h3 h4 hy
      have hle2 : zai T y.op ≤ 2 :=zfj T y.op
      have hne : zai T y.op ≠ 2 := by
       intro hy2
       rcases (hls j).1 ((hq j y hy hy2).2 h4) with h | h
       ·omega
       ·exact hanc j y hy (by omega) h (zgo (.inr ⟨hy2,hz⟩))
      exact ⟨by omega,.inr (by omega)⟩
     rw [zlk hst (by omega) hno,htr] at hl
     exact hh hz id b hl
   ·exact (hold id b hl).ext hE (hC hle id) hf
 ·intro j y hy hl e hee hbe
  rw [hls]
  rcases (hls j).1 hl with h | h
  ·subst h
   rw [ho] at hy; injection hy with hy; subst hy
   exact .inr (hrd e hee hbe)
  ·exact .inr (inv.closed j y hy h e hee hbe)
 ·intro j hj hjl id h1 h2
  rw [hls] at hj
  have hji : j ≠ i := fun e => hj (.inl e)
  have hf := inv.fresh j (fun h => hj (.inr h)) hjl id h1 h2
  by_cases hf' : loc'.m id = .free
  ·exact hf'
  ·have := hfr id hf hf'; omega
 ·intro id h1
  have hf := inv.high id h1
  by_cases hf' : loc'.m id = .free
  ·exact hf'
  ·have := hfr id hf hf'; omega
 ·rw [← inv.defers]
  cases o.dst <;> rfl
end
end Ax
end Go.Proofs.Ytdfgfdcfcdgadaa
namespace Go.Proofs.Ytdfgfdcfcdgadaa
namespace Ax
section
variable {P : Program} {S : zal} {T : zac} {l : List Oper} {nm : Nat} {s0 : List AV × Heap} {w0 : World} {E : Nat → Prop} {B : Bs}
theorem ydm (hg : Good T l) {listed : Array Bool} (hsz : listed.size = l.length) (hr : Region.ready .any l.toArray listed = []) : ∀ n j,j < n → j < l.length → Ls listed j := by
 intro n
 induction n with
 | zero => intro j h; omega
 | succ n ih =>
  intro j hj hjl
  by_cases hl : Ls listed j
  ·exact hl
  ·exfalso
   have : j ∈ Region.ready .any l.toArray listed := by
    refine mem_ready.2 ⟨getD_in (by rw [hsz]; exact hjl) (by unfold Ls at hl; simpa using hl),l[j],by simp [hjl],fun e he hb => ?_⟩
    have hlt := hg.back j l[j] (List.getElem?_eq_getElem hjl) e (by simpa using he) hb
    exact ih e.on (by omega) (by omega)
   rw [hr] at this
   simp at this
theorem yfb (hT : TOk P T) (hS : Fns P S) (hg : Good T l) (hst : ∀ j o,l[j]? = some o → (step S T l (nm + 8 * j) o (zbc S T l nm s0 j)).1) (h0 : ∀ id b,look s0.2 id = some b → id < nm) {K : Exit → Act → World → Prop}
  (hK : ∀ listed a w loc,Inv S T l nm s0 w0 E B listed a w loc → (∀ j,j < l.length → Ls listed j) → K .normal a w) :
  ∀ (fuel : Nat) (listed : Array Bool) (a : Act) (w : World) (loc : Loc),Inv S T l nm s0 w0 E B listed a w loc → listed.toList.count false ≤ fuel → wpAny P .any l.toArray K fuel listed a w := by
 intro fuel
 induction fuel with
 | zero =>
  intro listed a w loc inv hc
  have hall : ∀ j,j < l.length → Ls listed j := by
   intro j hj
   have hj' : j < listed.size := by rw [inv.sizel]; exact hj
   have h1 : false ∉ listed.toList := by
    intro hm
    have := List.count_pos_iff.2 hm
    omega
   unfold Ls
   have h2 : listed[j] ≠ false := fun e => h1 (by rw [← e]; simp)
   simpa [hj'] using h2
  refine ⟨?_,hK listed a w loc inv hall⟩
  cases hr : Region.ready .any l.toArray listed with
  | nil => rfl
  | cons j r =>
   exfalso
   have hm : j ∈ Region.ready .any l.toArray listed := by rw [hr]; simp
   obtain ⟨h1,o,ho,_⟩ := mem_ready.1 hm
   have hjl : j < l.length := by
    have := (Array.getElem?_eq_some_iff.1 ho).1
    simpa using this
   have := hall j hjl
   unfold Ls at this
   rw [getD_both h1] at this
   cases this
 | succ fuel ih =>
  intro listed a w loc inv hc
  refine ⟨fun hr => hK listed a w loc inv (fun j hj => ydm hg inv.sizel hr _ j (Nat.lt_succ_self _) hj),fun i hi => ?_⟩
  obtain ⟨hnl1,o,ho',hrd'⟩ := mem_ready.1 hi
  have ho : l[i]? = some o := by simpa using ho'
  have hnl : ¬ Ls listed i := by unfold Ls; rw [getD_both hnl1]; simp
  have hrd : ∀ e ∈ o.after.toList,Region.binds .any e = true → Ls listed e.on := fun e he hb => hrd' e (by simpa using he) hb
  have hlt : i < l.length := (List.getElem?_eq_some_iff.1 ho).1
  have hc' : (listed.setIfInBounds i true).toList.count false ≤ fuel := by
   have := zid listed.toList i (by simpa using hnl1)
   rw [Array.toList_setIfInBounds]
   omega
  have hlook := fun t ht => yip hg inv ho hnl hrd (t := t) ht
  have hev : ∀ x ∈ o.op.operands.toList,R w loc (ev (zbc S T l nm s0 i).1 x) (a.eval x) := by
   intro x hx
   cases x with
   | tmp t => exact hlook t (by unfold Oper.looksAt; exact List.mem_append_left _ (List.mem_filterMap.2 ⟨.tmp t,hx,rfl⟩))
   | const v => exact ev_R (sl := []) (a := a) (fun t => .junk _) (.const v)
   | global g => exact .junk _
   | func f => exact ev_R (sl := []) (a := a) (fun t => .junk _) (.func f)
  have hstep := hst i o ho
  have hadv := @ymh S T l nm s0 w0 E B listed a w loc i o hg hst h0 inv ho hnl hrd
  -- the operation is done
  have hdo : (aop S T (nm + 8 * i) (zbc S T l nm s0 i).1 o.op (zbc S T l nm s0 i).2).p →
    (step S T l (nm + 8 * i) o (zbc S T l nm s0 i)).2 = (zap (zbc S T l nm s0 i).1 o.dst (aop S T (nm + 8 * i) (zbc S T l nm s0 i).1 o.op (zbc S T l nm s0 i).2).x,(aop S T (nm + 8 * i) (zbc S T l nm s0 i).1 o.op (zbc S T l nm s0 i).2).H) →
    o.wp P a w (wpAny P .any l.toArray K fuel (listed.setIfInBounds i true)) K := by
   intro hp hs
   have hfree : ∀ id,nm + 8 * i ≤ id → id < nm + 8 * i + 8 → loc.m id = .free := inv.fresh i hnl hlt
   by_cases hk : zai T o.op = 0
   ·obtain ⟨h1,h2,h3⟩ := zno (H := (zbc S T l nm s0 i).2) (S := S) (sl := (zbc S T l nm s0 i).1) (nm := nm + 8 * i) hk hp
    refine zci hT hS inv.env (H := []) (fun id b h => by simp [look] at h) hfree o hev h1 _ K (fun v w' loc' hpost => ?_)
    obtain ⟨C,hE,hC⟩ := hpost.ext
    refine ih _ _ _ loc' (hadv (x := _) (C := C) (by rw [hs]) ?_ hE (fun _ => hC (zjp (H := []) (by omega) h1)) hpost.fresh hpost.env (inv.base.post hpost) (fun h => (h hk).elim)) hc'
    have := hpost.r
    rw [h2] at this; exact this
   ·have hh := zsc hg inv ho hnl hrd hk
    refine zci hT hS inv.env hh hfree o hev hp _ K (fun v w' loc' hpost => ?_)
    obtain ⟨C,hE,hC⟩ := hpost.ext
    exact ih _ _ _ loc' (hadv (x := _) (C := C) (by rw [hs]) hpost.r hE (fun h => hC (zjp h hp)) hpost.fresh hpost.env (inv.base.post hpost) (fun _ => by rw [hs]; exact hpost.h)) hc'
  unfold wpOp
  rw [ho']
  simp only
  cases hgd : o.guard with
  | none =>
   rw [if_pos (by simp [Region.wanted,hgd])]
   left
   refine hdo ?_ ?_
   ·simpa [step,hgd] using hstep
   ·simp [step,hgd]
  | some g =>
   obtain ⟨j,want⟩ := g
   simp only [step,hgd] at hstep hdo hadv
   cases hgs : guardSlot l j with
   | none => simp [hgs] at hstep
   | some d =>
    simp only [hgs] at hstep hdo hadv
    have hdl : d ∈ o.looksAt l.toArray := by
     unfold Oper.looksAt
     refine List.mem_append_right _ ?_
     rw [hgd]
     unfold guardSlot at hgs
     cases hj : l[j]? with
     | none => rw [hj] at hgs; cases hgs
     | some oj =>
      rw [hj] at hgs
      simp only at hgs
      simp [hj,hgs]
    have hval := hlook d hdl
    cases hsd : slot (zbc S T l nm s0 i).1 d with
    | w u =>
     cases u with
     | bool b =>
      simp only [hsd] at hstep hdo hadv
      rw [hsd] at hval
      have hval := hval.wv
      have hdlt : d < a.tmps.size := by
       rw [inv.size,← zea hst i]
       rcases Nat.lt_or_ge d (zbc S T l nm s0 i).1.length with h' | h'
       ·exact h'
       ·rw [zek h'] at hsd; cases hsd
      have hy := zgh (ops := l.toArray) (by simpa using hgs) hdlt hval
      have hw : (Region.wanted o (yielded l.toArray a.tmps) = true) ↔ b = want := by simp [Region.wanted,hgd,hy]
      by_cases hbw : b = want
      ·rw [if_pos (hw.2 hbw)]
       rw [if_pos hbw] at hstep hdo
       exact .inl (hdo hstep rfl)
      ·rw [if_neg (fun h => hbw (hw.1 h))]
       simp only [if_neg hbw] at hadv
       refine ih _ _ _ loc (hadv (x := .tup []) (C := fun _ => False) rfl zgu (Ext.refl w loc) (fun _ _ h => h) (fun id h h' => (h' h).elim) inv.env inv.base (fun hk => ?_)) hc'
       exact zsc hg inv ho hnl hrd hk
     | _ => simp [hsd] at hstep
    | tup xs =>
     cases xs with
     | nil =>
      simp only [hsd] at hadv
      rw [hsd] at hval
      rw [if_neg (by simp [Region.wanted,hgd,zdz (ops := l.toArray) (by simpa using hgs) (ydp hval)])]
      refine ih _ _ _ loc (hadv (x := .tup []) (C := fun _ => False) rfl zgu (Ext.refl w loc) (fun _ _ h => h) (fun id h h' => (h' h).elim) inv.env inv.base (fun hk => ?_)) hc'
      exact zsc hg inv ho hnl hrd hk
     | cons _ _ => simp [hsd] at hstep
    | _ => simp [hsd] at hstep
theorem zev (hT : TOk P T) (hS : Fns P S) (hm : P.follows .mixedOrders = true) : zpg P S T := by
 intro w0 E l K Q B nm sl H a w loc id hd hK hb hr h
 have hg := yll hd
 obtain ⟨hQ,hst⟩ := zri (S := S) (T := T) (nm := nm) (Q := Q) (l := l) (s0 := (sl,H)) l 0 (fun j => by rw [Nat.zero_add]) (Nat.zero_add _) (by simpa [zbc] using h)
 have hst' := fun j o ho => hst j o (Nat.zero_le _) ho
 refine wp_region_any hm ?_
 have hL : ∀ i,¬ Ls (Array.replicate l.toArray.size false) i := fun i h => by
  unfold Ls at h
  rw [getD_replicate_false] at h; cases h
 refine yfb hT hS hg hst' hr.low (w0 := w0) (E := E) (B := B) ?_ _ _ _ _ loc ?_ ?_
 ·intro listed a w loc inv hall
  have hq : ∀ (i : Nat),i < l.length → (Ls listed i ↔ i < l.length) := fun i hi => ⟨fun _ => hi,fun _ => hall i hi⟩
  have hlt : ∀ {j : Nat} {o : Oper},l[j]? = some o → j < l.length := fun h => (List.getElem?_eq_some_iff.1 h).1
  refine hK _ _ a w loc inv.base ⟨?_,?_,?_,inv.env,inv.high,inv.defers,?_⟩ hQ
  ·simp only; rw [zea hst']; exact inv.size
  ·exact fun t => inv.slots t _ (Nat.le_refl _) (fun i o ho _ => hq i (hlt ho))
  ·exact inv.heap _ (Nat.le_refl _) (fun i o ho _ => hq i (hlt ho))
  ·exact zho hst' hr.low l.length
 ·have hbase : Base w0 B { w with drawn := w.drawn + 1 } loc := hb
  have hE : Ext (fun _ => False) w loc { w with drawn := w.drawn + 1 } loc := ⟨Nat.le_refl _,fun _ _ _ => rfl,fun _ _ _ => .inl rfl,fun _ _ h => ⟨rfl,h⟩,fun _ _ _ _ => rfl,fun _ cur _ fz h => ⟨cur,fz,h,rfl⟩⟩
  have hcl : ∀ {x v},R w loc x v → R { w with drawn := w.drawn + 1 } loc x v := fun h => h.ext hE
  refine ⟨by simp,hr.size,?_,?_,?_,?_,?_,⟨hr.env.os,hr.env.tape,hr.env.output,hr.env.size,hr.env.same,hr.env.inj,hr.env.lies,hr.env.bad⟩,hbase,hr.defers⟩
  ·intro t k hk hq
   have e : slot (zbc S T l nm (sl,H) k).1 t = slot sl t := by
    refine zpy hst' (i := 0) (Nat.zero_le _) (fun j o _ hj ho hd => ?_)
    exact hL j ((hq j o ho hd).2 hj)
   rw [e]
   exact hcl (hr.slots t)
  ·intro k hk hq id b hl
   by_cases hf : loc.m id = .free
   ·exact BlkR.free hf
   ·have hidn : id < nm := by
     rcases Nat.lt_or_ge id nm with h' | h'
     ·exact h'
     ·exact (hf (hr.fresh id h')).elim
    have e : look (zbc S T l nm (sl,H) k).2 id = look H id := by
     refine zlk hst' (i := 0) (Nat.zero_le _) (fun j o _ hj ho => ?_)
     have hle : zai T o.op ≤ 2 := zfj T o.op
     have hne : zai T o.op ≠ 2 := fun h2 => hL j ((hq j o ho h2).2 hj)
     exact ⟨by omega,.inr (by omega)⟩
    rw [e] at hl
    exact (hr.heap id b hl).ext hE (fun h => h) hf
  ·intro j o ho hl; exact (hL j hl).elim
  ·intro i _ hi id h1 h2; exact hr.fresh id (by simp only; omega)
  ·intro id h1; exact hr.fresh id (by simp only; omega)
 ·simp
end
end Ax
end Go.Proofs.Ytdfgfdcfcdgadaa
namespace Go.Proofs.Ytdfgfdcfcdgadaa
namespace Ax
open Go.RowKit
def zem (T : zac) : Code → Bool
 | .region _ ops draw => !draw || zlb T ops.toList
 | .seq a b => zem T a && zem T b
 | .cond _ a b => zem T a && zem T b
 | .block _ c => zem T c
 | .loop c => zem T c
 | _ => true
def ziw : Code → Code
 | .region id ops _ => .region id ops false
 | .seq a b => .seq (ziw a) (ziw b)
 | .cond c a b => .cond c (ziw a) (ziw b)
 | .block id c => .block id (ziw c)
 | .loop c => .loop (ziw c)
 | c => c
theorem zig {S : zal} {T : zac} {ops : List Oper} {Q Q' : List AV → Heap → Prop} (hq : ∀ sl H,Q sl H → Q' sl H) : ∀ (l : List Oper) (nm : Nat) (sl : List AV) (H : Heap),aops S T ops nm l sl H Q → aops S T ops nm l sl H Q'
 | [],nm,sl,H,h => hq sl H h
 | o :: r,nm,sl,H,h => by
  unfold aops at h ⊢
  cases hg : o.guard with
  | none => simp only [hg] at h ⊢; exact ⟨h.1,zig hq r _ _ _ h.2⟩
  | some g =>
   obtain ⟨j,want⟩ := g
   simp only [hg] at h ⊢
   cases hs : guardSlot ops j with
   | none => simp [hs] at h
   | some d =>
    simp only [hs] at h ⊢
    split at h
    ·exact ⟨fun e => ⟨(h.1 e).1,zig hq r _ _ _ (h.1 e).2⟩,fun e => zig hq r _ _ _ (h.2 e)⟩
    ·exact zig hq r _ _ _ h
    ·exact h.elim
theorem ztl {S : zal} {T : zac} : ∀ (c : Code) (Q Q' : Exit → ASt → Prop) (σ : ASt),(∀ e σ,Q e σ → Q' e σ) → rawp S T c Q σ → rawp S T c Q' σ := by
 intro c
 induction c with
 | skip => intro Q Q' σ hq h; exact hq _ _ h
 | label l => intro Q Q' σ hq h; exact hq _ _ h
 | region id ops draw => intro Q Q' σ hq h; exact ⟨h.1,zig (fun _ _ h => hq _ _ h) _ _ _ _ h.2⟩
 | seq a b iha ihb =>
  intro Q Q' σ hq h
  refine iha _ _ σ ?_ h
  intro e σ h
  cases e with
  | normal => exact ihb _ _ σ hq h
  | _ => exact hq _ _ h
 | cond c a b iha ihb =>
  intro Q Q' σ hq h
  simp only [rawp] at h ⊢
  split at h
  ·exact ⟨fun e => iha _ _ σ hq (h.1 e),fun e => ihb _ _ σ hq (h.2 e)⟩
  ·exact h.elim
 | block id c ih =>
  intro Q Q' σ hq h
  refine ih _ _ σ ?_ h
  intro e σ h
  cases e with
  | exit id' =>
   simp only [zgq] at h ⊢
   split at h
   ·rename_i he; rw [if_pos he]; exact hq _ _ h
   ·rename_i he; rw [if_neg he]; exact hq _ _ h
  | _ => exact hq _ _ h
 | loop c ih =>
  intro Q Q' σ hq h
  obtain ⟨I,hst,hr⟩ := h
  refine ⟨I,hst,fun n σ' hI => ih _ _ σ' ?_ (hr n σ' hI)⟩
  intro e σ h
  cases e with
  | normal => exact h
  | _ =>
   obtain ⟨σ2,hw,h⟩ := h
   exact ⟨σ2,hw,hq _ _ h⟩
 | exit id => intro Q Q' σ hq h; exact hq _ _ h
 | ret => intro Q Q' σ hq h; exact hq _ _ h
 | _ => intro Q Q' σ hq h; exact h.elim
theorem znn {S : zal} {T : zac} : ∀ (c : Code) (Q : Exit → ASt → Prop) (σ : ASt),zem T c = true → rawp S T (ziw c) Q σ → rawp S T c Q σ := by
 intro c
 induction c with
 | region id ops draw =>
  intro Q σ hd h
  refine ⟨fun e => ?_,h.2⟩
  subst e
  simpa [zem] using hd
 | seq a b iha ihb =>
  intro Q σ hd h
  simp only [zem,Bool.and_eq_true] at hd
  refine iha _ σ hd.1 (ztl _ _ _ σ ?_ h)
  intro e σ h
  cases e with
  | normal => exact ihb _ σ hd.2 h
  | _ => exact h
 | cond c a b iha ihb =>
  intro Q σ hd h
  simp only [zem,Bool.and_eq_true] at hd
  simp only [ziw,rawp] at h ⊢
  split at h
  ·exact ⟨fun e => iha _ σ hd.1 (h.1 e),fun e => ihb _ σ hd.2 (h.2 e)⟩
  ·exact h.elim
 | block id c ih => intro Q σ hd h; exact ih _ σ hd h
 | loop c ih =>
  intro Q σ hd h
  obtain ⟨I,hst,hr⟩ := h
  exact ⟨I,hst,fun n σ' hI => ih _ σ' hd (hr n σ' hI)⟩
 | _ => intro Q σ hd h; exact h
def awp (S : zal) (T : zac) (c : Code) (Q : Exit → ASt → Prop) (σ : ASt) : Prop := rawp S T (ziw c) Q σ
def yis (S : zal) (T : zac) (b : Code) (Q : Exit → ASt → Prop) : Exit → ASt → Prop := seqK (awp S T b Q) Q
section rules
variable {S : zal} {T : zac} {Q : Exit → ASt → Prop} {σ : ASt}
theorem yar : awp S T .skip Q σ = Q .normal σ := rfl
theorem zvw {l : Nat} : awp S T (.label l) Q σ = Q .normal σ := rfl
theorem yhp : awp S T .ret Q σ = Q .ret σ := rfl
theorem yas {id : Nat} : awp S T (.exit id) Q σ = Q (.exit id) σ := rfl
theorem zrc {id : Nat} {l : List Oper} {draw : Bool} : awp S T (.region id l.toArray draw) Q σ = aops S T l σ.nx l σ.sl σ.H (regK (σ.nx + 8 * l.length) Q) := by
 simp [awp,rawp,ziw]
theorem yho {a b : Code} : awp S T (.seq a b) Q σ = awp S T a (yis S T b Q) σ := rfl
theorem zvx {id : Nat} {c : Code} : awp S T (.block id c) Q σ = awp S T c (zgq id Q) σ := rfl
theorem yat {c : Operand} {a b : Code} : awp S T (.cond c a b) Q σ = match ev σ.sl c with
   | .w (.bool t) => zhj t (awp S T a Q σ) (awp S T b Q σ)
   | _ => False := rfl
theorem yhq {c : Code} (h : ydn (awp S T c) Q σ) : awp S T (.loop c) Q σ := h
theorem zsw {c : Code} (h : yny (awp S T c) Q σ) : awp S T (.loop c) Q σ := by
 obtain ⟨I,hst,hr⟩ := h
 refine ⟨I,hst,fun n σ' hI => ztl _ _ _ σ' ?_ (hr n σ' hI)⟩
 intro e σ h
 cases e with
 | normal => exact h
 | _ => exact ⟨σ,Weak.refl σ,h⟩
theorem zar {b : Code} : yis S T b Q .normal σ = awp S T b Q σ := rfl
theorem zqk {b : Code} {id : Nat} : yis S T b Q (.exit id) σ = Q (.exit id) σ := rfl
theorem zuf {b : Code} : yis S T b Q .ret σ = Q .ret σ := rfl
theorem zlg {id : Nat} : zgq id Q .normal σ = Q .normal σ := rfl
theorem zra {id : Nat} : zgq id Q .ret σ = Q .ret σ := rfl
theorem zox {id id' : Nat} : zgq id Q (.exit id') σ = if id' = id then Q .normal σ else Q (.exit id') σ := rfl
theorem zqc {nx : Nat} {sl : List AV} {H : Heap} : regK nx Q sl H = Q .normal ⟨sl,H,nx⟩ := rfl
variable {ops r : List Oper} {o : Oper} {nm : Nat} {sl : List AV} {H : Heap} {Q' : List AV → Heap → Prop}
theorem yay : aops S T ops nm [] sl H Q' = Q' sl H := rfl
theorem zrj {dst : Option Tmp} {op : Op} {type : TypeId} {pos : String} {after : Array Edge} : aops S T ops nm (⟨dst,op,type,pos,after,none⟩ :: r) sl H Q' =
  ((aop S T nm sl op H).p ∧ aops S T ops (nm + 8) r (zap sl dst (aop S T nm sl op H).x) (aop S T nm sl op H).H Q') := rfl
theorem zrk {dst : Option Tmp} {op : Op} {type : TypeId} {pos : String} {after : Array Edge} {j : Nat} {want : Bool} : aops S T ops nm (⟨dst,op,type,pos,after,some (j,want)⟩ :: r) sl H Q' =
  match guardSlot ops j with
   | none => False
   | some d => match slot sl d with
    | .w (.bool b) =>
     zhh b want ((aop S T nm (setSlot sl d (.w (.bool want))) op H).p ∧
      aops S T ops (nm + 8) r (zap (setSlot sl d (.w (.bool want))) dst (aop S T nm (setSlot sl d (.w (.bool want))) op H).x) (aop S T nm (setSlot sl d (.w (.bool want))) op H).H Q')
     (aops S T ops (nm + 8) r (zap (setSlot sl d (.w (.bool !want))) dst (.tup [])) H Q')
    | .tup [] => aops S T ops (nm + 8) r (zap sl dst (.tup [])) H Q'
    | _ => False := rfl
end rules
theorem zir {P : Program} {T : zac} {S : zal} (hm : P.follows .mixedOrders = true) (hT : TOk P T) (hS : Fns P S) {f : FuncId} {fn : Func} {c : Code} (hf : P.funcs[f]? = some fn) (hb : fn.body = some c) (hd : zem T c = true) {spec : zcc}
  (h : ∀ xs pins,(spec xs pins).p → closedB pins = true → pins.length ≤ 4 ∧ awp S T c (Ends T fn.results.toList pins (spec xs pins)) ⟨xs ++ List.replicate (fn.ntmps - xs.length) .junk,pinHeap 0 pins,4⟩) : zen P f spec :=
 ztf hT hS (zev hT hS hm) hf hb (Qp := fun xs pins => Ends T fn.results.toList pins (spec xs pins)) (fun _ _ _ σ h => ⟨σ,Weak.refl σ,h⟩) (fun xs pins hp hc => ⟨(h xs pins hp hc).1,znn _ _ _ hd (h xs pins hp hc).2⟩)
theorem zuu {P : Program} {T : zac} {S : zal} (hm : P.follows .mixedOrders = true) (hT : TOk P T) (hS : Fns P S) {f : FuncId} {fn : Func} {c : Code} (hf : P.funcs[f]? = some fn) (hb : fn.body = some c) (hd : zem T c = true) {spec : zcc}
  (h : ∀ xs pins,(spec xs pins).p → closedB pins = true → pins.length ≤ 4 ∧ awp S T c (zyi T fn.results.toList pins (spec xs pins)) ⟨xs ++ List.replicate (fn.ntmps - xs.length) .junk,pinHeap 0 pins,4⟩) : zen P f spec :=
 ztf hT hS (zev hT hS hm) hf hb (Qp := fun xs pins => zyi T fn.results.toList pins (spec xs pins)) (fun _ _ _ _ h => h) (fun xs pins hp hc => ⟨(h xs pins hp hc).1,znn _ _ _ hd (h xs pins hp hc).2⟩)
def ymy : Nat → Prop := fun _ => False
def loc0 : Loc := zbf [] ymy
theorem yli {P : Program} {f : FuncId} {spec : zcc} (h : zen P f spec) {xs : List AV} {vs : List Value} {w : World} (hp : (spec xs []).p) (hx : (spec xs []).x = .w (.bool true)) (hl : xs.length = vs.length)
  (hR : ∀ (j : Nat) (h : j < xs.length) (h' : j < vs.length),R w loc0 xs[j] vs[j]) : Calls P f vs.toArray w fun e w' => e = .returned (.bool true) ∧ Below w.heap.size w w' := by
 refine (h xs [] hp rfl w ymy [] vs rfl (by simp) (fun _ h => h.elim) (fun k h => by simp at h) hl hR).mono ?_
 rintro e w' ⟨v,loc',rfl,hg⟩
 have hr := hg.r
 rw [hx] at hr
 rw [hr.wv]
 refine ⟨rfl,hg.fram.os,hg.fram.tape,hg.fram.output,hg.fram.size,fun k hk => hg.fram.same k hk (by simp)⟩
end Ax
end Go.Proofs.Ytdfgfdcfcdgadaa
namespace Go.Proofs.Ytdfgfdcfcdgadaa
namespace Ax
def Blk.ren (g : Nat → Nat) : Blk → Blk
 | .g s xs => .g s (renL g xs)
 | .b bs => .b bs
 | .i ns => .i ns
 | .o x => .o x
theorem zlv (g : Nat → Nat) (x : AV) : (x.ren g).leaves = renL g x.leaves := by
 cases x <;> first | rfl | (simp [AV.ren,AV.leaves,renL]; done)
theorem znm (g : Nat → Nat) : ∀ (xs ys : List AV),renL g (xs ++ ys) = renL g xs ++ renL g ys
 | [],_ => rfl
 | x :: xs,ys => by simp [renL,znm g xs ys]
theorem zmx (g : Nat → Nat) (b : Blk) : (b.ren g).flat = renL g b.flat := by
 cases b with
 | b bs =>
  simp only [Blk.ren,Blk.flat]
  induction bs with
  | nil => rfl
  | cons c r ih => simp only [List.map_cons,renL,AV.ren]; rw [← ih]
 | o x => rfl
 | i ns =>
  simp only [Blk.ren,Blk.flat]
  induction ns with
  | nil => rfl
  | cons c r ih => simp only [List.map_cons,renL,AV.ren]; rw [← ih]
 | g s xs =>
  simp only [Blk.ren,Blk.flat]
  induction xs with
  | nil => rfl
  | cons c r ih => simp only [renL,List.flatMap_cons,znm]; rw [ih,zlv]
theorem yem {g : Nat → Nat} {b : Blk} (h : (b.ren g).ok) : b.ok := by
 cases b with
 | g s xs =>
  obtain ⟨h1,h2⟩ := h
  refine ⟨h1,fun x hx => ?_⟩
  obtain ⟨j,hj,rfl⟩ := List.getElem_of_mem hx
  obtain ⟨h3,h4⟩ := zbg g xs
  have := h2 _ (List.getElem_mem (by rw [h3]; exact hj : j < (renL g xs).length))
  rw [h4 j (by rw [h3]; exact hj) hj,zlv,(zbg g _).1] at this
  exact this
 | _ => trivial
theorem yfa {g : Nat → Nat} {b : Blk} : (b.ren g).len = b.len := by
 cases b with
 | g s xs => exact (zbg g xs).1
 | _ => rfl
theorem odd_ren {g : Nat → Nat} {b : Blk} : (b.ren g).odd = b.odd := by cases b <;> rfl
theorem zyr {g : Nat → Nat} {b : Blk} : (b.ren g).size = b.size := by cases b <;> rfl
theorem zqi {w : World} {loc loc2 : Loc} {g : Nat → Nat} (hg : ∀ k,loc2.m k = loc.m (g k)) (hb : loc2.bad = loc.bad) {blk : Blk} {b : Nat} (h : Lies w loc (blk.ren g) b) : Lies w loc2 blk b := by
 rcases zbi blk with ⟨x,hx,rfl⟩ | hodd
 ·exact .mkO (Thing.move (fun c _ hM => hM.imp (fun h => by rw [← hb]; exact h) (fun ⟨k,h⟩ => ⟨g k,(hg k).symm.trans h⟩)) (h.is rfl)) rfl
 obtain ⟨cur,e,fz,h1,h2,h3,h4,h5⟩ := h.lies (odd_ren.trans hodd)
 have hl : blk.flat.length = (blk.ren g).flat.length := by rw [zmx,(zbg g _).1]
 refine .mkC ⟨cur,e,fz,h1,by rw [zyr] at h2; exact h2,h3,by omega,fun j a c => ?_⟩ hodd
 have h6 := h5 j (by omega) c
 have e : (blk.ren g).flat[j]'(by omega) = (blk.flat[j]).ren g := by
  have := (zbg g blk.flat).2 j (by rw [(zbg g _).1]; exact a) a
  rw [← this]
  congr 1
  exact zmx g blk
 rw [e] at h6
 rw [zjk] at h6
 exact ⟨h6.1,ybc hg hb h6.2 _ rfl⟩
def zad (g : Nat → Nat) : List AV → List AV → Prop
 | [],[] => True
 | x :: xs,y :: ys => (y = .junk ∨ y.ren g = x) ∧ zad g xs ys
 | _,_ => False
def zae (g : Nat → Nat) (n : Nat) (H : Heap) : Heap → Prop
 | [] => True
 | p :: r => p.1 < n ∧ look H (g p.1) = some (p.2.ren g) ∧ zae g n H r
theorem ztg {g : Nat → Nat} : ∀ {xs ys : List AV},zad g xs ys → xs.length = ys.length ∧ ∀ t,slot ys t = .junk ∨ (slot ys t).ren g = slot xs t
 | [],[],_ => ⟨rfl,fun t => .inl rfl⟩
 | x :: xs,y :: ys,h => by
  obtain ⟨h1,h2⟩ := ztg h.2
  refine ⟨by simp [h1],fun t => ?_⟩
  cases t with
  | zero => exact h.1
  | succ t => exact h2 t
 | [],_ :: _,h => h.elim
 | _ :: _,[],h => h.elim
theorem zni {g : Nat → Nat} {n : Nat} {H : Heap} : ∀ {H' : Heap},zae g n H H' → ∀ id b,look H' id = some b → id < n ∧ look H (g id) = some (b.ren g)
 | [],_,id,b,h => by simp [look] at h
 | p :: r,h,id,b,hl => by
  have e : look (p :: r) id = if p.1 = id then some p.2 else look r id := zax r p.1 id p.2
  rw [e] at hl
  split at hl
  ·rename_i he
   injection hl with hl
   subst hl; subst he
   exact ⟨h.1,h.2.1⟩
  ·exact zni h.2.2 id b hl
theorem zab {σ σ' : ASt} (ids : List Nat) (h4 : ids.take 4 = [0,1,2,3]) (hnd : nodup ids = true) (hlen : ids.length = σ'.nx) (hs : zad (gOf ids σ.nx) σ.sl σ'.sl) (hh : zae (gOf ids σ.nx) σ'.nx σ.H σ'.H) : Weak σ σ' := by
 rintro w0 E B a w ⟨loc,hB,hr⟩
 have hnd' := zee hnd
 obtain ⟨hs1,hs2⟩ := ztg hs
 have hold : ∀ k,(hk : k < ids.length) → gOf ids σ.nx k = ids[k] := fun k hk => zel hk
 have hnew : ∀ k,ids.length ≤ k → loc.m (gOf ids σ.nx k) = .free := fun k hk => hr.fresh _ (by rw [zdr hk]; omega)
 have hpin : ∀ k,k < 4 → gOf ids σ.nx k = k := by
  obtain ⟨t,rfl⟩ : ∃ t,ids = 0 :: 1 :: 2 :: 3 :: t := ⟨ids.drop 4,by have := List.take_append_drop 4 ids; rw [h4] at this; exact this.symm⟩
  intro k hk
  match k,hk with
  | 0,_ => rfl
  | 1,_ => rfl
  | 2,_ => rfl
  | 3,_ => rfl
 let loc' : Loc := { m := fun k => loc.m (gOf ids σ.nx k),bad := loc.bad }
 have hlt : ∀ i b,loc'.m i = .here b → i < ids.length := by
  intro i b hi
  rcases Nat.lt_or_ge i ids.length with h' | h'
  ·exact h'
  ·have : loc'.m i = .free := hnew i h'
   rw [this] at hi; cases hi
 refine ⟨loc',⟨hB.1,hB.2.1,fun k hk => ?_⟩,⟨?_,fun t => ?_,?_,⟨hr.env.os,hr.env.tape,hr.env.output,hr.env.size,hr.env.same,?_,?_,hr.env.bad⟩,?_,hr.defers,?_⟩⟩
 ·have e : loc'.m k = loc.m k := by
   show loc.m (gOf ids σ.nx k) = loc.m k
   rw [hpin k (by have := hB.2.1; omega)]
  rw [e]; exact hB.2.2 k hk
 ·rw [hr.size]; exact hs1
 ·rcases hs2 t with h | h
  ·rw [h]; exact .junk _
  ·exact ybc (loc2 := loc') (g := gOf ids σ.nx) (fun _ => rfl) rfl (hr.slots t) _ h
 ·intro id b hl
  obtain ⟨h1,h2⟩ := zni hh id b hl
  have h3 := hr.heap _ _ h2
  unfold BlkR at h3 ⊢
  show (match loc.m (gOf ids σ.nx id) with
   | .free => True
   | .dead => False
   | .nil => b.ok ∧ b.len = 0
   | .here c => b.ok ∧ Lies w loc' b c)
  split
  ·trivial
  ·rename_i e; rw [e] at h3; exact h3
  ·rename_i e; rw [e] at h3; exact ⟨yem h3.1,by rw [← yfa (g := gOf ids σ.nx)]; exact h3.2⟩
  ·rename_i c e; rw [e] at h3; exact ⟨yem h3.1,zqi (loc2 := loc') (g := gOf ids σ.nx) (fun _ => rfl) rfl h3.2⟩
 ·intro i j b hi hj
  have h1 := hlt i b hi
  have h2 := hlt j b hj
  have h3 : gOf ids σ.nx i = gOf ids σ.nx j := hr.env.inj _ _ b hi hj
  rw [hold i h1,hold j h2] at h3
  exact zch hnd' h3
 ·exact fun i b hi => hr.env.lies _ b hi
 ·intro id hid
  exact hnew id (by omega)
 ·intro id b hl
  exact (zni hh id b hl).1
theorem Weak.trans {a b c : ASt} (h : Weak a b) (k : Weak b c) : Weak a c := fun w0 E B x w r => k w0 E B x w (h w0 E B x w r)
def ynk : Blk → Prop
 | .b bs => bs = []
 | .i ns => ns = []
 | .g s xs => 0 < s ∧ xs = []
 | .o _ => False
def nilV : AV → Prop
 | .sb [] true => True
 | .si [] true => True
 | .sg _ [] true => True
 | _ => False
theorem ykk {w : World} {loc : Loc} {x : AV} {v : Value} (hn : nilV x) (h : R w loc x v) : ∃ a,v = .slice a 0 0 := by
 unfold nilV at hn
 split at hn
 ·cases h with
  | sb _ _ a cap hd _ => obtain rfl : cap = 0 := hd.full rfl; exact ⟨a,rfl⟩
 ·cases h with
  | si _ _ a cap hd _ => obtain rfl : cap = 0 := hd.full rfl; exact ⟨a,rfl⟩
 ·cases h with
  | sg _ _ _ a cap cs hd _ _ _ _ _ => obtain rfl : cap = 0 := hd.full rfl; exact ⟨a,rfl⟩
 ·exact hn.elim
theorem yia {sl : List AV} {H : Heap} {nx : Nat} (i s : Nat) (b : Blk) (hb : ynk b) (hn : nilV (slot sl i)) : Weak ⟨sl,H,nx⟩ ⟨setSlot sl i (.ms nx s 0 0),put H nx b,nx + 1⟩ := by
 rintro w0 E B a w ⟨loc,hB,hr⟩
 have hf : loc.m nx = .free := hr.fresh nx (Nat.le_refl _)
 have hb1 : b.ok ∧ b.len = 0 := by
  cases b with
  | o x => exact hb.elim
  | b bs => exact ⟨trivial,by rw [show bs = [] from hb]; rfl⟩
  | i bs => exact ⟨trivial,by rw [show bs = [] from hb]; rfl⟩
  | g s xs => obtain ⟨h1,rfl⟩ := hb; exact ⟨⟨h1,by simp⟩,rfl⟩
 have hM : ∀ c,Mut (loc.set nx .nil) c → Mut loc c := by
  rintro c (h | ⟨k,h⟩)
  ·exact .inl h
  ·by_cases hk : k = nx
   ·subst hk; rw [Loc.set_same] at h; cases h
   ·rw [Loc.set_other _ _ hk] at h; exact .inr ⟨k,h⟩
 have hE : Ext (fun _ => False) w loc w (loc.set nx .nil) :=
  ⟨Nat.le_refl _,fun id h _ => Loc.set_other _ _ (fun e => h (e ▸ hf)),fun _ _ h => h.elim,fun c _ hm => ⟨rfl,fun h => hm (hM c h)⟩,fun _ _ _ _ => rfl,fun _ cur _ fz h => ⟨cur,fz,h,rfl⟩⟩
 have hset : ∀ {k c},(loc.set nx .nil).m k = .here c → loc.m k = .here c := by
  intro k c h
  by_cases hk : k = nx
  ·subst hk; rw [Loc.set_same] at h; cases h
  ·rwa [Loc.set_other _ _ hk] at h
 refine ⟨loc.set nx .nil,⟨hB.1,hB.2.1,fun k hk => ?_⟩,⟨?_,fun t => ?_,?_,⟨hr.env.os,hr.env.tape,hr.env.output,hr.env.size,hr.env.same,fun i j b h1 h2 => hr.env.inj i j b (hset h1) (hset h2),fun i b h1 => hr.env.lies i b (hset h1),hr.env.bad⟩,?_,hr.defers,?_⟩⟩
 ·have hne : k ≠ nx := by
   rintro rfl
   rcases hB.2.2 k hk with h | ⟨h,_⟩ <;> rw [hf] at h <;> cases h
  rw [Loc.set_other _ _ hne]; exact hB.2.2 k hk
 ·simp only; rw [zbd]; exact hr.size
 ·simp only
  by_cases ht : i = t
  ·subst ht
   by_cases hl : i < sl.length
   ·rw [zcl hl]
    obtain ⟨a',he⟩ := ykk hn (hr.slots i)
    rw [he]
    refine .ms _ _ _ _ _ ?_
    unfold Owns
    rw [Loc.set_same]
    exact ⟨rfl,a',rfl⟩
   ·rw [zek (by rw [zbd]; exact Nat.le_of_not_lt hl)]; exact .junk _
  ·rw [zbx ht]; exact (hr.slots t).ext hE
 ·intro id c hl
  simp only at hl
  rw [zax] at hl
  split at hl
  ·rename_i e; subst e
   injection hl with hl; subst hl
   unfold BlkR
   rw [Loc.set_same]; exact hb1
  ·rename_i e
   by_cases hfr : loc.m id = .free
   ·exact BlkR.free (by rw [Loc.set_other _ _ (Ne.symm e)]; exact hfr)
   ·exact (hr.heap id c hl).ext hE (fun h => h) hfr
 ·intro id hid
  simp only at hid
  rw [Loc.set_other _ _ (by omega)]; exact hr.fresh id (by simp only; omega)
 ·intro id c hl
  simp only at hl
  rw [zax] at hl
  split at hl
  ·simp only; omega
  ·have := hr.low id c hl
   simp only at this ⊢; omega
end Ax
end Go.Proofs.Ytdfgfdcfcdgadaa
namespace Go.Proofs.Ytdfgfdcfcdgadaa
namespace Ax
mutual
def AV.fz (id : Nat) (bs : List UInt8) : AV → AV
 | .agg xs => .agg (fzL id bs xs)
 | .tup xs => .tup (fzL id bs xs)
 | .fn f cs => .fn f (fzL id bs cs)
 | .ms k s off len => bif k == id then (bif s == 1 && decide (off + len ≤ bs.length) then .sb ((bs.drop off).take len) false else .ms k s off len) else .ms k s off len
 | x => x
def fzL (id : Nat) (bs : List UInt8) : List AV → List AV
 | [] => []
 | x :: xs => x.fz id bs :: fzL id bs xs
end
theorem zfl (id : Nat) (bs : List UInt8) : ∀ (xs : List AV),(fzL id bs xs).length = xs.length ∧ ∀ (j : Nat) (h : j < (fzL id bs xs).length) (h' : j < xs.length),(fzL id bs xs)[j] = xs[j].fz id bs
 | [] => ⟨rfl,fun j h => by simp [fzL] at h⟩
 | x :: xs => by
  obtain ⟨h1,h2⟩ := zfl id bs xs
  refine ⟨by simp [fzL,h1],fun j h h' => ?_⟩
  cases j with
  | zero => rfl
  | succ j => exact h2 j (by simpa [fzL] using h) (by simpa using h')
theorem yfv {id : Nat} {bs : List UInt8} {x : AV} (h : x.leaf = true) : (x.fz id bs).leaf = true := by
 cases x <;> first | exact h | (simp [AV.leaf] at h; done) | skip
 simp only [AV.fz]
 cases (_ == id) with
 | false => rfl
 | true =>
  simp only [cond_true]
  cases (_ && _ : Bool) <;> rfl
theorem fz_R {w : World} {loc : Loc} {id : Nat} {bs : List UInt8} (hor : (loc.m id = .nil ∧ bs = []) ∨ ∃ b,loc.m id = .here b ∧ b < w.heap.size ∧ Lies w loc (.b bs) b ∧ (∀ k,loc.m k = .here b → k = id) ∧ ¬ loc.bad b) {x : AV} {v : Value} (h : R w loc x v) : R w (loc.set id .dead) (x.fz id bs) v := by
 have hM : ∀ c,Mut (loc.set id .dead) c → Mut loc c := by
  rintro c (h | ⟨k,h⟩)
  ·exact .inl h
  ·by_cases hk : k = id
   ·subst hk; rw [Loc.set_same] at h; cases h
   ·rw [Loc.set_other _ _ hk] at h; exact .inr ⟨k,h⟩
 have hC : ∀ {a cs},Cells w loc a cs → Cells w (loc.set id .dead) a cs := fun h => h.move (fun b _ hm => hM b hm)
 induction h with
 | w v h => exact .w v h
 | str bs => exact .str bs
 | agg xs cs hl hx _ ih =>
  obtain ⟨h1,h2⟩ := zfl id bs xs
  refine .agg _ cs (by rw [h1,hl]) (fun j hj => ?_) (fun j a b => ?_)
  ·rw [h2 j hj (by rw [← h1]; exact hj)]; exact yfv (hx j _)
  ·rw [h2 j a (by rw [← h1]; exact a)]; exact ih j _ b
 | tup xs cs hl _ ih =>
  obtain ⟨h1,h2⟩ := zfl id bs xs
  refine .tup _ cs (by rw [h1,hl]) (fun j a b => ?_)
  rw [h2 j a (by rw [← h1]; exact a)]; exact ih j _ b
 | sb bs full a cap hd hc => exact .sb bs full a cap hd (hC hc)
 | si ns full a cap hd hc => exact .si ns full a cap hd (hC hc)
 | sg s xs full a cap cs hd hs hc hl hx h _ => exact .sg s xs full a cap cs hd hs (hC hc) hl hx (fun j a b => (h j a b).move (fun b _ hm => hM b hm) (hx j a).2)
 | cp ls a cs hc hn hl hx h _ => exact .cp ls a cs (hC hc) hn hl hx (fun j a b => (h j a b).move (fun b _ hm => hM b hm) (hx j a).2)
 | ms k s off len v h =>
  have hkeep : R w (loc.set id .dead) (.ms k s off len) v := by
   refine .ms _ _ _ _ _ ?_
   by_cases hk : k = id
   ·subst hk; unfold Owns; rw [Loc.set_same]; exact h.one
   ·unfold Owns at h ⊢; rw [Loc.set_other _ _ hk]; exact h
  simp only [AV.fz]
  by_cases hk : k = id
  ·subst hk
   simp only [beq_self_eq_true,cond_true]
   cases hc : (s == 1 && decide (off + len ≤ bs.length)) with
   | false => exact hkeep
   | true =>
    simp only [cond_true]
    simp only [Bool.and_eq_true,beq_iff_eq,decide_eq_true_eq] at hc
    obtain ⟨rfl,hle⟩ := hc
    have hlen : ((bs.drop off).take len).length = len := by simp; omega
    rcases hor with ⟨hb,rfl⟩ | ⟨b,hb,hlt,hl,hinj,hnb⟩
    ·unfold Owns at h
     rw [hb] at h
     obtain ⟨rfl,a,rfl⟩ := h
     have := R.sb (w := w) (loc := loc.set k .dead) (([] : List UInt8)) false a 0 ⟨Nat.le_refl _,Nat.zero_le _,fun h => by cases h⟩ ⟨.inl rfl⟩
     simpa using this
    unfold Owns at h
    rw [hb] at h
    obtain ⟨o,cap,cur,e,fz,rfl,ho,hh,hsz,hlc,htop⟩ := h
    have hcells : Cells w (loc.set k .dead) (some ⟨b,o,none⟩) (((bs.drop off).take len).map byte) := by
     by_cases h0 : len = 0
     ·subst h0; exact ⟨.inl (by simp)⟩
     refine ⟨.inr ⟨b,o,rfl,?_,hlt,fun j hj => ?_⟩⟩
     ·rintro (h | ⟨i,h⟩)
      ·exact hnb h
      ·by_cases hk : i = k
       ·subst hk; rw [Loc.set_same] at h; cases h
       ·rw [Loc.set_other _ _ hk] at h; exact hk (hinj i h)
     ·obtain ⟨cur',e',fz',hh',hf',hone',hfl',hr'⟩ := hl.lies
      rw [hh] at hh'; injection hh' with hh'; injection hh' with h1 h2 h3; subst h1
      have ho := ho (by omega)
      rw [Nat.mul_one] at ho
      rw [ho]
      have hj' : j < len := by simp at hj; omega
      have hfl : (Blk.flat (.b bs)).length = bs.length := by simp [Blk.flat]
      have hjs : off + j < cur.size := by omega
      have := (hr' (off + j) (by omega) hjs).2
      have e1 : (Blk.flat (.b bs))[off + j]'(by omega) = .w (byte (bs[off + j]'(by omega))) := by simp [Blk.flat]
      rw [e1] at this
      have := this.wv
      have e2 : (((bs.drop off).take len).map byte)[j] = byte (bs[off + j]'(by omega)) := by simp
      rw [e2,← this]
      simp [World.cell?,hh,hjs]
    have := R.sb (w := w) (loc := loc.set k .dead) ((bs.drop off).take len) false (some ⟨b,o,none⟩) cap ⟨by omega,htop,fun h => by cases h⟩ hcells
    rw [hlen] at this
    exact this
  ·have : (k == id) = false := by simpa using hk
   rw [this]; exact hkeep
 | rf k s i f v h =>
  refine .rf _ _ _ _ _ ?_
  by_cases hk : k = id
  ·subst hk; unfold Points; rw [Loc.set_same]; exact h.one
  ·unfold Points at h ⊢; rw [Loc.set_other _ _ hk]; exact h
 | fn f caps cs hl _ ih =>
  obtain ⟨h1,h2⟩ := zfl id bs caps
  refine .fn f _ cs (by rw [h1,hl]) (fun j a b => ?_)
  rw [h2 j a (by rw [← h1]; exact a)]; exact ih j _ b
 | junk v => exact .junk v
def Blk.fz (id : Nat) (bs : List UInt8) : Blk → Blk
 | .g s xs => .g s (fzL id bs xs)
 | .b cs => .b cs
 | .i ns => .i ns
 | .o x => .o x
theorem odd_fz {id : Nat} {bs : List UInt8} {b : Blk} : (b.fz id bs).odd = b.odd := by cases b <;> rfl
theorem ykw {id : Nat} {bs : List UInt8} {b : Blk} : (b.fz id bs).size = b.size := by cases b <;> rfl
def fzH (id : Nat) (bs : List UInt8) : Heap → Heap
 | [] => []
 | p :: r => bif p.1 == id then fzH id bs r else (p.1,p.2.fz id bs) :: fzH id bs r
theorem zua (id : Nat) (bs : List UInt8) (x : AV) : (x.fz id bs).leaves = fzL id bs x.leaves := by
 cases x <;> first | rfl | skip
 simp only [AV.fz,AV.leaves,fzL]
 cases (_ == id) with
 | false => rfl
 | true =>
  simp only [cond_true]
  cases (_ && _ : Bool) <;> rfl
theorem zqo (id : Nat) (bs : List UInt8) : ∀ (xs ys : List AV),fzL id bs (xs ++ ys) = fzL id bs xs ++ fzL id bs ys
 | [],_ => rfl
 | x :: xs,ys => by simp [fzL,zqo id bs xs ys]
theorem ygg (id : Nat) (bs : List UInt8) (b : Blk) : (b.fz id bs).flat = fzL id bs b.flat := by
 cases b with
 | b cs =>
  simp only [Blk.fz,Blk.flat]
  induction cs with
  | nil => rfl
  | cons c r ih => simp only [List.map_cons,fzL,AV.fz]; rw [← ih]
 | o x => rfl
 | i ns =>
  simp only [Blk.fz,Blk.flat]
  induction ns with
  | nil => rfl
  | cons c r ih => simp only [List.map_cons,fzL,AV.fz]; rw [← ih]
 | g s xs =>
  simp only [Blk.fz,Blk.flat]
  induction xs with
  | nil => rfl
  | cons c r ih => simp only [fzL,List.flatMap_cons,zqo]; rw [ih,zua]
theorem yle {id : Nat} {bs : List UInt8} {b : Blk} (h : b.ok) : (b.fz id bs).ok := by
 cases b with
 | g s xs =>
  obtain ⟨h1,h2⟩ := h
  refine ⟨h1,fun x hx => ?_⟩
  obtain ⟨j,hj,rfl⟩ := List.getElem_of_mem hx
  obtain ⟨h3,h4⟩ := zfl id bs xs
  rw [h4 j hj (by rw [← h3]; exact hj),zua,(zfl id bs _).1]
  exact h2 _ (List.getElem_mem _)
 | _ => trivial
theorem ynb {id : Nat} {bs : List UInt8} {b : Blk} : (b.fz id bs).len = b.len := by
 cases b with
 | g s xs => exact (zfl id bs xs).1
 | _ => rfl
theorem zse {id : Nat} {bs : List UInt8} : ∀ {H : Heap} {k : Nat} {b : Blk},look (fzH id bs H) k = some b → k ≠ id ∧ ∃ c,look H k = some c ∧ b = c.fz id bs
 | [],k,b,h => by simp [fzH,look] at h
 | p :: r,k,b,h => by
  have e : look (p :: r) k = if p.1 = k then some p.2 else look r k := zax r p.1 k p.2
  unfold fzH at h
  by_cases hp : p.1 = id
  ·have : (p.1 == id) = true := by simpa using hp
   rw [this] at h
   obtain ⟨h1,c,h2,h3⟩ := zse h
   exact ⟨h1,c,by rw [e,if_neg (by omega)]; exact h2,h3⟩
  ·have : (p.1 == id) = false := by simpa using hp
   rw [this] at h
   have e2 : look ((p.1,p.2.fz id bs) :: fzH id bs r) k = if p.1 = k then some (p.2.fz id bs) else look (fzH id bs r) k := zax (fzH id bs r) p.1 k _
   simp only [cond_false] at h
   rw [e2] at h
   split at h
   ·rename_i hk
    injection h with h
    exact ⟨by omega,p.2,by rw [e,if_pos hk],h.symm⟩
   ·rename_i hk
    obtain ⟨h1,c,h2,h3⟩ := zse h
    exact ⟨h1,c,by rw [e,if_neg hk]; exact h2,h3⟩
theorem zmt {id : Nat} {bs : List UInt8} : ∀ (sl : List AV) (t : Nat),slot (fzL id bs sl) t = (slot sl t).fz id bs
 | [],t => rfl
 | x :: xs,0 => rfl
 | x :: xs,t + 1 => zmt xs t
theorem yks {sl : List AV} {H : Heap} {nx : Nat} (id i : Nat) (bs : List UInt8) (hl : look H id = some (.b bs)) (hi : id ∈ (slot sl i).ids) : Weak ⟨sl,H,nx⟩ ⟨fzL id bs sl,fzH id bs H,nx⟩ := by
 rintro w0 E B a w ⟨loc,hB,hr⟩
 have hlive : loc.m id ≠ .free := zdv _ _ (hr.slots i) hi
 have hblk := hr.heap id _ hl
 have hor : (loc.m id = .nil ∧ bs = []) ∨ ∃ b,loc.m id = .here b ∧ b < w.heap.size ∧ Lies w loc (.b bs) b ∧ (∀ k,loc.m k = .here b → k = id) ∧ ¬ loc.bad b := by
  unfold BlkR at hblk
  cases e : loc.m id with
  | free => exact (hlive e).elim
  | dead => rw [e] at hblk; exact hblk.elim
  | nil => rw [e] at hblk; exact .inl ⟨rfl,List.eq_nil_of_length_eq_zero hblk.2⟩
  | here b =>
   rw [e] at hblk
   have h1 := hr.env.lies id b e
   refine .inr ⟨b,rfl,h1.1,hblk.2,fun k hk => hr.env.inj k id b hk e,fun hb => ?_⟩
   have h2 := hr.env.bad b hb
   rcases h1.2 with h3 | h3
   ·omega
   ·exact h2.2 h3
 have hset : ∀ {k c},(loc.set id .dead).m k = .here c → loc.m k = .here c := by
  intro k c h
  by_cases hk : k = id
  ·subst hk; rw [Loc.set_same] at h; cases h
  ·rwa [Loc.set_other _ _ hk] at h
 refine ⟨loc.set id .dead,⟨hB.1,hB.2.1,fun k hk => ?_⟩,⟨?_,fun t => ?_,?_,⟨hr.env.os,hr.env.tape,hr.env.output,hr.env.size,hr.env.same,fun i j b h1 h2 => hr.env.inj i j b (hset h1) (hset h2),fun i b h1 => hr.env.lies i b (hset h1),hr.env.bad⟩,?_,hr.defers,?_⟩⟩
 ·by_cases hne : k = id
  ·subst hne; left; rw [Loc.set_same]
  ·rw [Loc.set_other _ _ hne]; exact hB.2.2 k hk
 ·rw [hr.size]; exact ((zfl id bs sl).1).symm
 ·simp only; rw [zmt]; exact fz_R hor (hr.slots t)
 ·intro k b hk
  obtain ⟨h1,c,h2,rfl⟩ := zse hk
  have h3 := hr.heap k c h2
  unfold BlkR at h3 ⊢
  rw [Loc.set_other _ _ h1]
  split
  ·trivial
  ·rename_i e; rw [e] at h3; exact h3
  ·rename_i e; rw [e] at h3; exact ⟨yle h3.1,by rw [ynb]; exact h3.2⟩
  ·rename_i d e
   rw [e] at h3
   rcases zbi c with ⟨x,hx,rfl⟩ | hodd
   ·exact ⟨yle h3.1,.mkO (Thing.move (loc := loc) (fun c _ hM => hM.imp (fun h => h) (fun ⟨k,h⟩ => ⟨k,hset h⟩)) (h3.2.is hx)) rfl⟩
   obtain ⟨cur,el,fz,g1,g2,g3,g4,g5⟩ := h3.2.lies hodd
   have hlen : (c.fz id bs).flat.length = c.flat.length := by rw [ygg,(zfl id bs _).1]
   refine ⟨yle h3.1,.mkC ⟨cur,el,fz,g1,by rw [ykw]; exact g2,g3,by omega,fun j x y => ?_⟩ (odd_fz.trans hodd)⟩
   have h6 := g5 j (by omega) y
   have e : (c.fz id bs).flat[j] = (c.flat[j]'(by omega)).fz id bs := by
    have := (zfl id bs c.flat).2 j (by rw [(zfl id bs _).1]; omega) (by omega)
    rw [← this]
    congr 1
    exact ygg id bs c
   rw [e]
   exact ⟨yfv h6.1,fz_R hor h6.2⟩
 ·intro k hk
  by_cases hne : k = id
  ·exact (hlive (hne ▸ hr.fresh k hk)).elim
  ·rw [Loc.set_other _ _ hne]; exact hr.fresh k hk
 ·intro k b hk
  obtain ⟨h1,c,h2,rfl⟩ := zse hk
  exact hr.low k c h2
end Ax
end Go.Proofs.Ytdfgfdcfcdgadaa
