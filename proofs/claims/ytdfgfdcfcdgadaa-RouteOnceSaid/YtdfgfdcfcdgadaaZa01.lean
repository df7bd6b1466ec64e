/- What the proofs of this seat stand on; it asks nothing. -/
import Derived.Test.YtdfgfdcfcdgadaaZa00
set_option linter.unusedSimpArgs false
set_option linter.unusedVariables false
namespace Go.Proofs.Ytdfgfdcfcdgadaa
namespace Ax
theorem ynl (w : World) (loc : Loc) (v : Value) : R w loc (cvl v) v := by
 unfold cvl
 split
 ·rename_i s
  have : s = ⟨s.data.toList.toArray⟩ := by cases s; simp
  conv => arg 4; rw [this]
  exact .str _
 ·exact .sg 1 [] true none 0 [] ⟨Nat.le_refl _,Nat.zero_le _,fun _ => rfl⟩ (by simp) ⟨.inl rfl⟩ rfl (by simp) (by simp)
 ·exact .w _ rfl
 ·exact .w _ rfl
 ·exact .w _ rfl
 ·exact .w _ rfl
 ·exact .w _ rfl
 ·exact .w _ rfl
 ·exact .junk _
theorem cv_R (w : World) (loc : Loc) (v : Value) : R w loc (cv v) v := by
 unfold cv
 split
 ·rename_i cs
  split
  ·rename_i h
   have hx : ∀ (j : Nat) (h : j < (cs.toList.map cvl).length),(cs.toList.map cvl)[j].leaf = true := fun j hj => List.all_eq_true.1 h _ (List.getElem_mem hj)
   have := R.agg (w := w) (loc := loc) (cs.toList.map cvl) cs.toList (by simp) hx (fun j h1 h2 => by
    have h3 : (cs.toList.map cvl)[j] = cvl cs.toList[j] := by simp
    rw [h3]; exact ynl w loc _)
   simpa using this
  ·exact .junk _
 ·exact ynl w loc v
theorem zcf (xs : List AV) (n : Nat) : slot xs n = xs.getD n .junk := by
 induction xs generalizing n with
 | nil => simp [slot]
 | cons x xs ih => cases n with
  | zero => simp [slot]
  | succ n => simp only [slot,ih]; simp
theorem zfd {xs : List AV} {n : Nat} (h : n < xs.length) : slot xs n = xs[n] := by
 rw [zcf]; simp [List.getD,List.getElem?_eq_getElem h]
theorem zdk (xs : List AV) (n : Nat) (y : AV) : setSlot xs n y = xs.set n y := by
 induction xs generalizing n with
 | nil => simp [setSlot]
 | cons x xs ih => cases n with
  | zero => simp [setSlot]
  | succ n => simp only [setSlot,ih]; simp
theorem ev_R {w : World} {loc : Loc} {sl : List AV} {a : Act} (hs : ∀ t,R w loc (slot sl t) (a.tmps.getD t undef)) (o : Operand) : R w loc (ev sl o) (a.eval o) := by
 cases o with
 | tmp t => exact hs t
 | const v => exact cv_R w loc v
 | global g => exact .junk _
 | func f => exact .fn f [] [] rfl (by simp)
theorem zze {w : World} {loc : Loc} {x : AV} {v : Value} (h : R w loc x v) (hl : x.leaf = true) : one v = true := by
 cases h with
 | w v h => exact h
 | str bs => rfl
 | agg => simp [AV.leaf] at hl
 | tup => simp [AV.leaf] at hl
 | sb => rfl
 | si => rfl
 | sg => rfl
 | cp => rfl
 | ms id s off len v h => exact h.one
 | rf id s i f v h => exact h.one
 | fn => rfl
 | junk => simp [AV.leaf] at hl
theorem yel {v : Value} (h : one v = true) : v.cells = #[v] := by cases v <;> first | rfl | simp [one] at h
structure CellsOf (w : World) (loc : Loc) (ls : List AV) (cs : List Value) : Prop where
 len : ls.length = cs.length
 leaf : ∀ (j : Nat) (h : j < ls.length),ls[j].leaf = true
 r : ∀ (j : Nat) (h : j < ls.length) (h' : j < cs.length),R w loc ls[j] cs[j]
theorem CellsOf.one {w : World} {loc : Loc} {ls : List AV} {cs : List Value} (h : CellsOf w loc ls cs) : ∀ c ∈ cs,Ax.one c = true := by
 intro c hc
 obtain ⟨j,hj,rfl⟩ := List.getElem_of_mem hc
 exact zze (h.r j (by rw [h.len]; exact hj) hj) (h.leaf j (by rw [h.len]; exact hj))
theorem zed {w : World} {loc : Loc} {x : AV} {v : Value} (h : R w loc x v) (hk : x.okv = true) : CellsOf w loc x.leaves v.cells.toList := by
 have one_case : ∀ {x : AV} {v : Value},R w loc x v → x.leaf = true → x.leaves = [x] → CellsOf w loc x.leaves v.cells.toList := by
  intro x v h hl he
  rw [he,yel (zze h hl)]
  refine ⟨rfl,fun j hj => ?_,fun j hj hj' => ?_⟩
  ·obtain rfl : j = 0 := by simpa using hj
   exact hl
  ·obtain rfl : j = 0 := by simpa using hj
   exact h
 cases h with
 | agg xs cs hl hx h => exact ⟨by simpa [AV.leaves,Value.cells] using hl,fun j hj => hx j hj,fun j h1 h2 => h j h1 (by simpa [Value.cells] using h2)⟩
 | tup => simp [AV.okv,AV.leaf] at hk
 | junk => simp [AV.okv,AV.leaf] at hk
 | w v h => exact one_case (.w v h) hk rfl
 | str bs => exact one_case (.str bs) hk rfl
 | sb bs full a cap hd hc => exact one_case (.sb bs full a cap hd hc) hk rfl
 | si ns full a cap hd hc => exact one_case (.si ns full a cap hd hc) hk rfl
 | sg s xs full a cap cs hd hs hc hl hx h => exact one_case (.sg s xs full a cap cs hd hs hc hl hx h) hk rfl
 | cp ls a cs hc hn hl hx h => exact one_case (.cp ls a cs hc hn hl hx h) hk rfl
 | ms id s off len v h => exact one_case (.ms id s off len v h) hk rfl
 | rf id s i f v h => exact one_case (.rf id s i f v h) hk rfl
 | fn f caps cs hl h => exact one_case (.fn f caps cs hl h) hk rfl
section mem
variable {P : Program}
theorem znj {t : TypeId} {d : TD} (h : TdR P t d) (w : World) : (isAgg t).run P w = .ok d.aggr w := by
 cases d with
 | other =>
  obtain ⟨d,hd,h1,h2⟩ := h
  cases d <;> first | exact (h1 _ rfl).elim | exact (h2 _ _ rfl).elim | simp [isAgg,run_underlying hd,TD.aggr]
 | ptr => obtain ⟨e,h⟩ := h; simp [isAgg,run_underlying h,TD.aggr]
 | struct fs => obtain ⟨e,h,_⟩ := h; simp [isAgg,run_underlying h,TD.aggr]
 | func => obtain ⟨a,b,c,h⟩ := h; simp [isAgg,run_underlying h,TD.aggr]
 | int k => simp [isAgg,run_underlying (show P.underlying t = _ from h),TD.aggr]
 | bool => simp [isAgg,run_underlying (show P.underlying t = _ from h),TD.aggr]
 | str => simp [isAgg,run_underlying (show P.underlying t = _ from h),TD.aggr]
 | slice e => simp [isAgg,run_underlying (show P.underlying t = _ from h),TD.aggr]
 | arr n e => simp [isAgg,run_underlying (show P.underlying t = _ from h),TD.aggr]
 | map k e => simp [isAgg,run_underlying (show P.underlying t = _ from h),TD.aggr]
theorem zcm {t : TypeId} {inf : TypeInfo} (h : P.info? t = some inf) (w : World) : (typeInfo t).run P w = .ok inf w := by
 simp only [typeInfo,program,Bind.bind,Sem.bind,Sem.run]
 rw [h]; rfl
theorem zay {t : TypeId} {i : TyI} (h : TyR P t i) (w : World) : (sizeOf t).run P w = .ok i.size w := by
 obtain ⟨inf,z,h1,h2,_⟩ := h.info
 simp [sizeOf,zcm h1,h2]
theorem zbk {t : TypeId} {i : TyI} (h : TyR P t i) (w : World) : ∃ z,(zeroValue t).run P w = .ok z w ∧ z.cells.toList.length = i.size ∧ (∀ w loc,CellsOf w loc i.zero z.cells.toList ∧ R w loc (asv i i.zero) z) := by
 obtain ⟨inf,z,h1,h2,h3,h4,h5,h6,h7,h8⟩ := h.info
 refine ⟨z,by simp [zeroValue,zcm h1,h4],h5,fun w loc => ?_⟩
 have hz := zlj h6
 have hc : CellsOf w loc i.zero z.cells.toList := ⟨hz.1,fun j hj => (zhm (hz.2 j hj (by rw [← hz.1]; exact hj))).1,fun j h1 h2 => (zhm (hz.2 j h1 h2)).2.2.2 w loc⟩
 refine ⟨hc,?_⟩
 unfold asv
 cases ha : i.d.aggr with
 | true =>
  obtain ⟨cs,rfl⟩ := h7 ha
  have := R.agg (w := w) (loc := loc) i.zero cs.toList hc.len hc.leaf hc.r
  simpa using this
 | false =>
  obtain ⟨h9,h10,h11⟩ := h8 ha
  have hl : 0 < i.zero.length := by rw [hc.len,h5,h11]; exact Nat.one_pos
  have := hc.r 0 hl (by rw [h10]; exact Nat.one_pos)
  simp only [cond_false]
  rw [zfd hl]
  simpa [h10] using this
theorem zme {t : TypeId} {i : TyI} (h : TyR P t i) {w : World} {b o : Nat} {cs : List Value} (hc : ∀ (j : Nat) (hj : j < cs.length),w.cell? ⟨b,o + j,none⟩ = some cs[j]) (hn : cs.length = i.size) :
  (loadVar t ⟨b,o,none⟩).run P w = .ok (if i.d.aggr = true then .agg cs.toArray else cs.getD 0 undef) w := by
 have hadd : ∀ j v,cs[j]? = some v → w.cell? (Addr.add ⟨b,o,none⟩ j) = some v := by
  intro j v hv
  obtain ⟨hj,rfl⟩ := List.getElem?_eq_some_iff.1 hv
  rw [← hc j hj]
  by_cases h0 : j = 0
  ·subst h0; simp [Addr.add]
  ·simp [Addr.add,h0]
 cases ha : i.d.aggr with
 | true =>
  have h1 := znj h.d w
  have h2 := zay h w
  have h3 := run_loadCells_list (P := P) w ⟨b,o,none⟩ cs hadd
  rw [hn] at h3
  rw [ha] at h1
  simp [loadVar,h1,h2,h3]
 | false =>
  have h1 := znj h.d w
  rw [ha] at h1
  have hs : i.size = 1 := by obtain ⟨_,_,_,_,_,_,_,_,_,h8⟩ := h.info; exact (h8 ha).2.2
  have h0 : 0 < cs.length := by omega
  have h2 := hc 0 h0
  simp only [Nat.add_zero] at h2
  have h3 : cs.getD 0 undef = cs[0] := by simp [List.getD,List.getElem?_eq_getElem h0]
  rw [h3]
  simp [loadVar,h1,load,Sem.run,h2]
theorem zrr {t : TypeId} {i : TyI} (h : TyR P t i) {w : World} {loc : Loc} {b o f : Nat} {ls : List AV} {cs : List Value} {H : Heap} (hc : ∀ (j : Nat) (hj : j < cs.length),w.cell? ⟨b,o + j,none⟩ = some cs[j])
  (hl : CellsOf w loc ls cs) (hp : (subv i ls f H).p) : ∃ v,(loadVar t ⟨b,o + f,none⟩).run P w = .ok v w ∧ R w loc (subv i ls f H).x v ∧ (subv i ls f H).H = H := by
 unfold subv at hp ⊢
 cases ha : i.d.aggr with
 | true =>
  simp only [ha,cond_true] at hp ⊢
  have hlen := hl.len
  have hcl : ((cs.drop f).take i.size).length = i.size := by simp; omega
  refine ⟨_,zme h (b := b) (o := o + f) (cs := (cs.drop f).take i.size) (fun j hj => ?_) hcl,?_,by simp⟩
  ·have hj' : j < i.size := by omega
   rw [Nat.add_assoc,hc (f + j) (by omega)]; simp
  ·rw [ha,if_pos rfl]
   refine .agg _ _ (by simp; omega) (fun j hj => ?_) (fun j h1 h2 => ?_)
   ·have := hl.leaf (f + j) (by simp at hj; omega)
    simpa using this
   ·have := hl.r (f + j) (by simp at h1; omega) (by simp at h2; omega)
    simpa using this
 | false =>
  simp only [ha,cond_false] at hp ⊢
  have hs : i.size = 1 := by obtain ⟨_,_,_,_,_,_,_,_,_,h8⟩ := h.info; exact (h8 ha).2.2
  have hf : f < cs.length := by rw [← hl.len]; exact hp
  refine ⟨_,zme h (b := b) (o := o + f) (cs := [cs[f]]) (fun j hj => ?_) (by simp [hs]),?_,by simp⟩
  ·obtain rfl : j = 0 := by simpa using hj
   exact hc f hf
  ·rw [ha,if_neg (by simp),zfd hp]
   simpa using hl.r f hp hf
theorem zgm {blk : Blk} (hok : blk.ok) {i : Nat} (hi : i < blk.len) : (zan blk i).length = blk.size ∧ i * blk.size + blk.size ≤ blk.flat.length ∧ ∀ (f : Nat) (hf : f < (zan blk i).length) (hf' : i * blk.size + f < blk.flat.length),blk.flat[i * blk.size + f] = (zan blk i)[f] := by
 cases blk with
 | b bs =>
  simp only [Blk.len] at hi
  refine ⟨rfl,by simp [Blk.size,Blk.flat]; omega,fun f hf hf' => ?_⟩
  obtain rfl : f = 0 := by simpa [zan] using hf
  simp [Blk.flat,zan,Blk.size,List.getD,List.getElem?_eq_getElem hi]
 | o x => simp [Blk.len] at hi
 | i ns =>
  simp only [Blk.len] at hi
  refine ⟨rfl,by simp [Blk.size,Blk.flat]; omega,fun f hf hf' => ?_⟩
  obtain rfl : f = 0 := by simpa [zan] using hf
  simp [Blk.flat,zan,Blk.size,List.getD,List.getElem?_eq_getElem hi]
 | g s xs =>
  simp only [Blk.len] at hi
  obtain ⟨h0,hs⟩ := hok
  simp only [zan,zfd hi,Blk.size]
  have key : ∀ (xs : List AV) (i : Nat) (hi : i < xs.length),(∀ x ∈ xs,x.leaves.length = s) → i * s + s ≤ (xs.flatMap AV.leaves).length ∧ ∀ (f : Nat) (hf : f < xs[i].leaves.length) (hf' : i * s + f < (xs.flatMap AV.leaves).length),(xs.flatMap AV.leaves)[i * s + f] = xs[i].leaves[f] := by
   intro xs
   induction xs with
   | nil => intro i hi; simp at hi
   | cons x r ih =>
    intro i hi hs
    have hx : x.leaves.length = s := hs x (by simp)
    cases i with
    | zero =>
     refine ⟨by simp; omega,fun f hf hf' => ?_⟩
     simp only [Nat.zero_mul,Nat.zero_add,List.flatMap_cons,List.getElem_cons_zero] at hf hf' ⊢
     rw [List.getElem_append_left hf]
    | succ i =>
     obtain ⟨h1,h2⟩ := ih i (by simpa using hi) (fun y hy => hs y (by simp [hy]))
     have e1 : (i + 1) * s = s + i * s := by rw [Nat.succ_mul]; omega
     refine ⟨by simp only [List.flatMap_cons,List.length_append]; omega,fun f hf hf' => ?_⟩
     have hlt : i * s + f < (r.flatMap AV.leaves).length := by simp only [List.flatMap_cons,List.length_append] at hf'; omega
     have := h2 f (by simpa using hf) hlt
     simp only [List.flatMap_cons,List.getElem_cons_succ]
     rw [← this,List.getElem_append_right (by omega)]
     congr 1; omega
  obtain ⟨h1,h2⟩ := key xs i hi hs
  exact ⟨hs _ (List.getElem_mem hi),h1,h2⟩
theorem zqh {T : zac} (hT : TOk P T) {w : World} {loc : Loc} {H : Heap} (hh : HR w loc H) {t : TypeId} {x : AV} {v : Value} (hx : R w loc x v) (hp : (aLoad T t x H).p) :
  ∃ u,(Instr.loadAt t v).run P w = .ok u w ∧ R w loc (aLoad T t x H).x u ∧ (aLoad T t x H).H = H := by
 unfold aLoad at hp ⊢
 cases ht : T t with
 | none => simp [ht,bad] at hp
 | some ti =>
  have hty := hT t ti ht
  cases hx with
  | cp ls a cs hc hn hl hle h =>
   simp only [ht] at hp ⊢
   obtain h0 | ⟨b,o,ha,hm,hb,hcc⟩ := hc.lies
   ·exact (hn h0).elim
   ·injection ha with ha; subst ha
    obtain ⟨u,h1,h2,h3⟩ := zrr hty (f := 0) (H := H) hcc ⟨hl,fun j hj => (hle j hj).1,h⟩ hp
    exact ⟨u,by simpa [Instr.loadAt,Instr.sureAddr] using h1,h2,h3⟩
  | rf id s i f v h =>
   simp only [ht] at hp ⊢
   cases hl : look H id with
   | none => simp [hl,bad] at hp
   | some blk =>
    cases hm : zko ti blk with
    | true =>
     simp only [hl,hm,cond_true,Out.and] at hp ⊢
     obtain ⟨⟨rfl,rfl⟩,hp⟩ := hp
     have hf : loc.m id ≠ .free := by intro e; simp [Points,e] at h
     have hodd : blk.odd = none := by
      cases blk with
      | o x => simp [zko] at hm
      | _ => rfl
     have hlen0 : 0 < blk.len ∨ blk.len = 0 := by omega
     obtain ⟨hok,hn | ⟨b,hb,hlies⟩⟩ := hh.get hl hf
     ·simp [Points,hn.1] at h
     ·simp only [Points,hb] at h
      rw [zbh (by decide)] at h
      subst h
      obtain ⟨cur,e,fz,hheap,_,_,hlen,hr⟩ := hlies.lies hodd
      have hcc : ∀ (j : Nat) (hj : j < (cur.toList.take blk.flat.length).length),w.cell? ⟨b,0 + j,none⟩ = some (cur.toList.take blk.flat.length)[j] := by
       intro j hj
       have hj2 : j < cur.size := by simp at hj; omega
       simp [World.cell?,hheap,Array.getElem?_eq_getElem hj2]
      have hco : CellsOf w loc blk.flat (cur.toList.take blk.flat.length) := by
       refine ⟨by simp; omega,fun j hj => (hr j hj (by omega)).1,fun j h1 h2 => ?_⟩
       simpa using (hr j h1 (by omega)).2
      obtain ⟨u,h1,h2,h3⟩ := zrr hty (f := i) (H := H) hcc hco hp
      exact ⟨u,by simpa [Instr.loadAt,Instr.sureAddr] using h1,h2,h3⟩
    | false =>
    simp only [hl,hm,cond_false,Out.and] at hp ⊢
    obtain ⟨⟨rfl,hi⟩,hp⟩ := hp
    have hf : loc.m id ≠ .free := by intro e; simp [Points,e] at h
    obtain ⟨hok,hn | ⟨b,hb,hlies⟩⟩ := hh.get hl hf
    ·simp [Points,hn.1] at h
    ·simp only [Points,hb] at h
     rw [zbh (Nat.ne_of_gt (zmu hok))] at h
     subst h
     obtain ⟨cur,e,fz,hheap,_,_,hlen,hr⟩ := hlies.lies (zlp hi)
     obtain ⟨he1,he2,he3⟩ := zgm hok hi
     have hcc : ∀ (j : Nat) (hj : j < ((cur.toList.drop (i * blk.size)).take blk.size).length),w.cell? ⟨b,i * blk.size + j,none⟩ = some ((cur.toList.drop (i * blk.size)).take blk.size)[j] := by
      intro j hj
      have hj2 : i * blk.size + j < cur.size := by simp at hj; omega
      simp [World.cell?,hheap,Array.getElem?_eq_getElem hj2]
     have hco : CellsOf w loc (zan blk i) ((cur.toList.drop (i * blk.size)).take blk.size) := by
      refine ⟨by simp [he1]; omega,fun j hj => ?_,fun j h1 h2 => ?_⟩
      ·rw [← he3 j hj (by omega)]; exact (hr _ (by omega) (by omega)).1
      ·rw [← he3 j h1 (by omega)]
       have := (hr (i * blk.size + j) (by omega) (by omega)).2
       simpa using this
     obtain ⟨u,h1,h2,h3⟩ := zrr hty (f := f) (H := H) hcc hco hp
     exact ⟨u,by simpa [Instr.loadAt,Instr.sureAddr] using h1,h2,h3⟩
  | _ => simp [ht,bad] at hp
end mem
end Ax
end Go.Proofs.Ytdfgfdcfcdgadaa
namespace Go.Proofs.Ytdfgfdcfcdgadaa
namespace Ax
section ops
variable {P : Program}
theorem zbr (b o : Nat) (e : TypeId) (fz : Nat × Nat) : ∀ (vs : List Value) (i : Nat) (cur : Array Value) (w : World),w.heap[b]? = some (.cells cur e fz) → (∀ j,j < cur.size → ¬ (fz.1 ≤ j ∧ j < fz.2)) → o + i + vs.length ≤ cur.size → (∀ v ∈ vs,one v = true) →
  ∃ w' cur',(storeCells ⟨b,o,none⟩ vs i).run P w = .ok () w' ∧ w'.heap[b]? = some (.cells cur' e fz) ∧ cur'.size = cur.size ∧ (∀ c,c ≠ b → w'.heap[c]? = w.heap[c]?) ∧ w'.heap.size = w.heap.size ∧ w'.os = w.os ∧ w'.tape = w.tape ∧ w'.output = w.output ∧
   (∀ j,j < cur.size → cur'[j]? = if o + i ≤ j ∧ j < o + i + vs.length then vs[j - (o + i)]? else cur[j]?)
 | [],i,cur,w,hw,_,_,_ => ⟨w,cur,rfl,hw,rfl,fun _ _ => rfl,rfl,rfl,rfl,rfl,fun j _ => by rw [if_neg (by simp)]⟩
 | v :: r,i,cur,w,hw,hf,hl,h1 => by
  have hv : one v = true := h1 v (by simp)
  have hlt : o + i < cur.size := by simp at hl; omega
  have hadd : Addr.add ⟨b,o,none⟩ i = ⟨b,o + i,none⟩ := by
   by_cases h0 : i = 0
   ·subst h0; simp [Addr.add]
   ·simp [Addr.add,h0]
  have hcell : w.cell? ⟨b,o + i,none⟩ = some cur[o + i] := by simp [World.cell?,hw,Array.getElem?_eq_getElem hlt]
  have hfz : w.frozen? ⟨b,o + i,none⟩ = false := by
   have := hf (o + i) hlt
   simp only [World.frozen?,hw]
   simp; omega
  have hst : (store ⟨b,o + i,none⟩ v).run P w = .ok () (w.setCell ⟨b,o + i,none⟩ v) := by
   cases v <;> first | (simp [one] at hv; done) | simp [store,Sem.run,hcell,hfz]
  have hw1 : (w.setCell ⟨b,o + i,none⟩ v).heap[b]? = some (.cells (cur.setIfInBounds (o + i) v) e fz) := by
   simp [World.setCell,Array.getElem?_modify,hw]
  have hother : ∀ c,c ≠ b → (w.setCell ⟨b,o + i,none⟩ v).heap[c]? = w.heap[c]? := fun c hc => by
   simp only [World.setCell,Array.getElem?_modify]; rw [if_neg (Ne.symm hc)]
  obtain ⟨w',cur',h2,h3,h4,h5,h6,h7,h8,h9,h10⟩ := zbr b o e fz r (i + 1) (cur.setIfInBounds (o + i) v) _ hw1 (by simpa using hf) (by simp at hl ⊢; omega) (fun u hu => h1 u (by simp [hu]))
  refine ⟨w',cur',by simp [storeCells,hadd,hst,h2],h3,by simpa using h4,fun c hc => (h5 c hc).trans (hother c hc),by simpa [World.setCell] using h6,h7,h8,h9,fun j hj => ?_⟩
  rw [h10 j (by simpa using hj)]
  by_cases he : j = o + i
  ·subst he
   rw [if_neg (by omega),if_pos (by simp)]
   simp [hlt]
  ·by_cases h11 : o + (i + 1) ≤ j ∧ j < o + (i + 1) + r.length
   ·rw [if_pos h11,if_pos (by simp; omega)]
    have : j - (o + i) = (j - (o + (i + 1))) + 1 := by omega
    rw [this]; simp
   ·rw [if_neg h11,if_neg (by simp; omega)]
    rw [Array.getElem?_setIfInBounds]
    rw [if_neg (by omega)]
theorem zin {w0 : World} {E : Nat → Prop} {w w' : World} {loc : Loc} {H : Heap} {id b nm : Nat} {blk : Blk} {x : AV} {v : Value} {cur cur' : Array Value} {e : TypeId} {fz : Nat × Nat}
  (he : Env w0 E w loc) (hh : HR w loc H) (hb : loc.m id = .here b) (hw : w.heap[b]? = some (.cells cur e fz)) (hw' : w'.heap[b]? = some (.cells cur' e fz)) (hs : cur'.size = cur.size)
  (hother : ∀ c,c ≠ b → w'.heap[c]? = w.heap[c]?) (hsz : w'.heap.size = w.heap.size) (h1 : w'.os = w.os) (h2 : w'.tape = w.tape) (h3 : w'.output = w.output)
  (hok : blk.ok) (hfz : fz.1 = fz.2 ∨ (cur.size ≤ fz.1 ∧ blk.size = 1)) (hone : ∀ (j : Nat) (h : j < cur'.size),one cur'[j] = true) (hlen : blk.flat.length ≤ cur'.size)
  (hr : ∀ (j : Nat) (h : j < blk.flat.length) (h' : j < cur'.size),blk.flat[j].leaf = true ∧ R w loc blk.flat[j] cur'[j])
  (hx : ∀ w' loc',R w' loc' x v) (hodd : blk.odd = none := by rfl) : Post w0 E w loc true nm x (put H id blk) v w' loc := by
 have hext : Ext (fun k => k = id) w loc w' loc := by
  refine ⟨by omega,fun _ _ _ => rfl,fun _ _ _ => .inl rfl,fun c hc hm => ⟨hother c ?_,hm⟩,fun k c hk hC => hother c ?_,fun c cur1 e1 fz1 hc1 => ?_⟩
  ·intro hcb; subst hcb; exact hm (.inr ⟨id,hb⟩)
  ·intro hcb; subst hcb; exact hC (he.inj k id c hk hb)
  ·by_cases hcb : c = b
   ·subst hcb
    rw [hw] at hc1; injection hc1 with hc1; injection hc1 with h4 h5 h6; subst h4 h5 h6
    exact ⟨cur',fz,hw',hs⟩
   ·exact ⟨cur1,fz1,(hother c hcb).trans hc1,rfl⟩
 refine ⟨hx _ _,?_,⟨h1.trans he.os,h2.trans he.tape,h3.trans he.output,by have := he.size; omega,fun c hc hE => ?_,he.inj,fun i c hi => by have := he.lies i c hi; exact ⟨by omega,this.2⟩,he.bad⟩,⟨_,hext,fun h => by cases h⟩,fun _ h h' => (h' h).elim,rfl⟩
 ·intro k blk' hk
  rw [zax] at hk
  split at hk
  ·rename_i hi; subst hi
   injection hk with hk; subst hk
   unfold BlkR
   rw [hb]
   exact ⟨hok,.mkC ⟨cur',e,fz,hw',by rw [hs]; exact hfz,hone,hlen,fun j a c => ⟨(hr j a c).1,(hr j a c).2.ext hext⟩⟩ hodd⟩
  ·rename_i hi
   by_cases hfr : loc.m k = .free
   ·exact BlkR.free hfr
   ·exact (hh k blk' hk).ext hext (Ne.symm hi) hfr
 ·rw [hother c ?_]
  ·exact he.same c hc hE
  ·intro hcb; subst hcb
   have := (he.lies id c hb).2
   rcases this with h | h
   ·omega
   ·exact hE h
theorem yik {w0 : World} {E : Nat → Prop} {w w' : World} {loc : Loc} {H : Heap} {id b nm : Nat} {y : Thing} {ob : Obj} {u : AV} {v : Value}
  (he : Env w0 E w loc) (hh : HR w loc H) (hb : loc.m id = .here b) (hw : w.heap[b]? = some ob) (hob : Obj.odd ob = true) (hw' : y.says w' loc b)
  (hother : ∀ c,c ≠ b → w'.heap[c]? = w.heap[c]?) (hsz : w'.heap.size = w.heap.size) (h1 : w'.os = w.os) (h2 : w'.tape = w.tape) (h3 : w'.output = w.output)
  (hx : ∀ w' loc',R w' loc' u v) : Post w0 E w loc true nm u (put H id (.o y)) v w' loc := by
 have hext : Ext (fun k => k = id) w loc w' loc := by
  refine ⟨by omega,fun _ _ _ => rfl,fun _ _ _ => .inl rfl,fun c hc hm => ⟨hother c ?_,hm⟩,fun k c hk hC => hother c ?_,fun c cur1 e1 fz1 hc1 => ?_⟩
  ·intro hcb; subst hcb; exact hm (.inr ⟨id,hb⟩)
  ·intro hcb; subst hcb; exact hC (he.inj k id c hk hb)
  ·by_cases hcb : c = b
   ·subst hcb
    rw [hw] at hc1; injection hc1 with hc1; subst hc1; cases hob
   ·exact ⟨cur1,fz1,(hother c hcb).trans hc1,rfl⟩
 refine ⟨hx _ _,?_,⟨h1.trans he.os,h2.trans he.tape,h3.trans he.output,by have := he.size; omega,fun c hc hE => ?_,he.inj,fun i c hi => by have := he.lies i c hi; exact ⟨by omega,this.2⟩,he.bad⟩,⟨_,hext,fun h => by cases h⟩,fun _ h h' => (h' h).elim,rfl⟩
 ·intro k blk' hk
  rw [zax] at hk
  split at hk
  ·rename_i hi; subst hi
   injection hk with hk; subst hk
   unfold BlkR
   rw [hb]
   exact ⟨trivial,.mkO hw' rfl⟩
  ·rename_i hi
   by_cases hfr : loc.m k = .free
   ·exact BlkR.free hfr
   ·exact (hh k blk' hk).ext hext (Ne.symm hi) hfr
 ·rw [hother c ?_]
  ·exact he.same c hc hE
  ·intro hcb; subst hcb
   have := (he.lies id c hb).2
   rcases this with h | h
   ·omega
   ·exact hE h
theorem zjo {x : AV} (h : x.leaf = true) : x.leaves = [x] := by cases x <;> first | rfl | simp [AV.leaf] at h
theorem zbn {blk : Blk} (hok : blk.ok) : blk.flat.length = blk.len * blk.size := by
 cases blk with
 | b bs => simp [Blk.flat,Blk.len,Blk.size]
 | o x => simp [Blk.flat,Blk.len]
 | i ns => simp [Blk.flat,Blk.len,Blk.size]
 | g s xs =>
  obtain ⟨_,hs⟩ := hok
  simp only [Blk.flat,Blk.len,Blk.size]
  induction xs with
  | nil => simp
  | cons x r ih => simp only [List.flatMap_cons,List.length_append,List.length_cons]; rw [ih (fun y hy => hs y (by simp [hy])),hs x (by simp),Nat.succ_mul]; omega
theorem yhl {m : Int} (h0 : 0 ≤ m) (h1 : m < 256) : byte (UInt8.ofNat m.toNat) = .int .u8 m := by
 unfold byte
 congr 1
 simp [UInt8.toNat_ofNat']
 omega
theorem zck {ls vs : List AV} {f : Nat} (h : f + vs.length ≤ ls.length) : (splice ls f vs).length = ls.length := by
 simp [splice]; omega
theorem zdj {ls vs : List AV} {f j : Nat} (h : f + vs.length ≤ ls.length) (hj : j < ls.length) (hj' : j < (splice ls f vs).length) : (splice ls f vs)[j] = if h2 : f ≤ j ∧ j < f + vs.length then vs[j - f] else ls[j] := by
 unfold splice at hj' ⊢
 by_cases h1 : j < f
 ·rw [List.getElem_append_left (by simp; omega),dif_neg (by omega)]; simp
 ·rw [List.getElem_append_right (by simp; omega)]
  by_cases h2 : j < f + vs.length
  ·rw [List.getElem_append_left (by simp; omega),dif_pos (by omega)]
   congr 1; simp; omega
  ·rw [List.getElem_append_right (by simp; omega),dif_neg (by omega)]
   simp only [List.getElem_drop]
   congr 1; simp; omega
theorem zrv {blk : Blk} (hok : blk.ok) {i f : Nat} {x : AV} (hi : i < blk.len) (hp : (setB blk i f x).1) :
  (setB blk i f x).2.ok ∧ (setB blk i f x).2.len = blk.len ∧ (setB blk i f x).2.size = blk.size ∧ f + x.leaves.length ≤ blk.size ∧
  ∀ k,k < blk.len → zan (setB blk i f x).2 k = if k = i then splice (zan blk i) f x.leaves else zan blk k := by
 cases blk with
 | b bs =>
  simp only [setB] at hp ⊢
  simp only [Blk.len] at hi
  split at hp
  ·rename_i m
   obtain ⟨rfl,h0,h1⟩ := hp
   refine ⟨trivial,by simp [Blk.len],rfl,by simp [Blk.size,AV.leaves],fun k hk => ?_⟩
   simp only [Blk.len] at hk
   by_cases hki : k = i
   ·subst hki
    simp [zan,splice,AV.leaves,List.getD,hk,yhl h0 h1]
   ·simp [zan,hki,List.getD,Ne.symm hki]
  ·exact hp.elim
 | o x => simp [Blk.len] at hi
 | i ns =>
  simp only [setB] at hp ⊢
  simp only [Blk.len] at hi
  split at hp
  ·rename_i m
   obtain rfl := hp
   refine ⟨trivial,by simp [Blk.len],rfl,by simp [Blk.size,AV.leaves],fun k hk => ?_⟩
   simp only [Blk.len] at hk
   by_cases hki : k = i
   ·subst hki
    simp [zan,splice,AV.leaves,List.getD,hk,word]
   ·simp [zan,hki,List.getD,Ne.symm hki]
  ·exact hp.elim
 | g s xs =>
  obtain ⟨h0,hs⟩ := hok
  simp only [Blk.len] at hi
  have hxi : slot xs i = xs[i] := zfd hi
  have hsi : xs[i].leaves.length = s := hs _ (List.getElem_mem hi)
  have main : ∀ y : AV,y.leaves.length = s → y.leaves = splice xs[i].leaves f x.leaves → f + x.leaves.length ≤ s →
    Blk.ok (.g s (setSlot xs i y)) ∧ Blk.len (.g s (setSlot xs i y)) = Blk.len (.g s xs) ∧ Blk.size (.g s (setSlot xs i y)) = Blk.size (.g s xs) ∧ f + x.leaves.length ≤ Blk.size (.g s xs) ∧
    ∀ k,k < Blk.len (.g s xs) → zan (.g s (setSlot xs i y)) k = if k = i then splice (zan (.g s xs) i) f x.leaves else zan (.g s xs) k := by
   intro y hy1 hy2 hy3
   rw [zdk]
   refine ⟨⟨h0,fun z hz => ?_⟩,by simp [Blk.len],rfl,hy3,fun k hk => ?_⟩
   ·rcases List.mem_or_eq_of_mem_set hz with h | h
    ·exact hs z h
    ·rw [h]; exact hy1
   ·simp only [Blk.len] at hk
    by_cases hki : k = i
    ·subst hki
     simp only [zan,if_pos]
     rw [zfd (by simpa using hk),hxi]
     simpa using hy2
    ·simp only [zan,if_neg hki]
     rw [zfd (by simpa using hk),zfd hk,List.getElem_set_ne (Ne.symm hki)]
  simp only [setB,hxi] at hp ⊢
  cases hxs : xs[i] with
  | agg ls =>
   simp only [hxs] at hp ⊢
   have hls : ls.length = s := by rw [hxs] at hsi; exact hsi
   exact main _ (by rw [← hls]; exact zck hp) (by rw [hxs]; rfl) (by omega)
  | _ =>
   simp only [hxs] at hp ⊢
   obtain ⟨rfl,hl⟩ := hp
   have h1 : (1 : Nat) = s := by rw [hxs] at hsi; exact hsi
   have h2 := zjo hl
   exact main x (by rw [h2]; exact h1) (by rw [hxs,h2]; rfl) (by rw [h2]; simp; omega)
theorem yjc {blk : Blk} (hok : blk.ok) {i f : Nat} {x : AV} (hi : i < blk.len) (hp : (setB blk i f x).1) :
  (setB blk i f x).2.ok ∧ (setB blk i f x).2.flat.length = blk.flat.length ∧ i * blk.size + f + x.leaves.length ≤ blk.flat.length ∧
  ∀ (j : Nat) (h : j < blk.flat.length) (h' : j < (setB blk i f x).2.flat.length),(setB blk i f x).2.flat[j] = if h2 : i * blk.size + f ≤ j ∧ j < i * blk.size + f + x.leaves.length then x.leaves[j - (i * blk.size + f)] else blk.flat[j] := by
 obtain ⟨h1,h2,h3,h4,h5⟩ := zrv hok hi hp
 have hlen : (setB blk i f x).2.flat.length = blk.flat.length := by rw [zbn h1,zbn hok,h2,h3]
 obtain ⟨e1,e2,e3⟩ := zgm hok hi
 refine ⟨h1,hlen,by omega,fun j hj hj' => ?_⟩
 have hs := zmu hok
 generalize hb : (setB blk i f x).2 = blk' at *
 have hq : j / blk.size < blk.len := by rw [Nat.div_lt_iff_lt_mul hs]; rw [zbn hok] at hj; exact hj
 have hr : j % blk.size < blk.size := Nat.mod_lt _ hs
 have hjq : j = j / blk.size * blk.size + j % blk.size := by rw [Nat.mul_comm]; exact (Nat.div_add_mod j blk.size).symm
 generalize hqe : j / blk.size = q at *
 generalize hre : j % blk.size = r at *
 subst hjq
 obtain ⟨a1,a2,a3⟩ := zgm hok hq
 obtain ⟨b1,b2,b3⟩ := zgm h1 (i := q) (by rw [h2]; exact hq)
 rw [h3] at b1 b2 b3
 rw [b3 r (by rw [b1]; exact hr) hj']
 have hnew := h5 q hq
 have hgen : ∀ (l : List AV) (hl : zan blk' q = l) (hr2 : r < l.length),(zan blk' q)[r]'(by rw [b1]; exact hr) = l[r] := by intro l hl hr2; subst hl; rfl
 by_cases hqi : q = i
 ·subst hqi
  rw [if_pos rfl] at hnew
  have hsl : (splice (zan blk q) f x.leaves).length = blk.size := by rw [zck (by rw [a1]; exact h4),a1]
  rw [hgen _ hnew (by rw [hsl]; exact hr),zdj (by rw [a1]; exact h4) (by rw [a1]; exact hr)]
  by_cases hc : f ≤ r ∧ r < f + x.leaves.length
  ·rw [dif_pos hc,dif_pos (by omega)]
   congr 1; omega
  ·rw [dif_neg hc,dif_neg (by omega)]
   exact (a3 r (by rw [a1]; exact hr) hj).symm
 ·rw [if_neg hqi] at hnew
  rw [hgen _ hnew (by rw [a1]; exact hr),dif_neg]
  ·exact (a3 r (by rw [a1]; exact hr) hj).symm
  ·intro hc
   rcases Nat.lt_or_gt_of_ne hqi with h | h
   ·have := Nat.mul_le_mul_right blk.size (show q + 1 ≤ i from h)
    rw [Nat.succ_mul] at this; omega
   ·have := Nat.mul_le_mul_right blk.size (show i + 1 ≤ q from h)
    rw [Nat.succ_mul] at this; omega
end ops
end Ax
end Go.Proofs.Ytdfgfdcfcdgadaa
namespace Go.Proofs.Ytdfgfdcfcdgadaa
namespace Ax
section ops
variable {P : Program}
theorem ybj {ls vs l : List AV} {f : Nat} (h : f + vs.length ≤ ls.length) (hl : l.length = ls.length)
  (hj : ∀ (j : Nat) (h : j < ls.length) (h' : j < l.length),l[j] = if h2 : f ≤ j ∧ j < f + vs.length then vs[j - f] else ls[j]) : l = splice ls f vs := by
 refine List.ext_getElem (by rw [zck h,hl]) fun j h1 h2 => ?_
 rw [hj j (by omega) h1,zdj h (by omega) h2]
theorem zxl {blk : Blk} (hok : blk.ok) {i f : Nat} {x : AV} (hi : i < blk.len) (hp : (setB blk i f x).1) :
  (setB blk i f x).2.ok ∧ i * blk.size + f + x.leaves.length ≤ blk.flat.length ∧ (setB blk i f x).2.flat = splice blk.flat (i * blk.size + f) x.leaves := by
 obtain ⟨h1,h2,h3,h4⟩ := yjc hok hi hp
 exact ⟨h1,h3,ybj h3 h2 h4⟩
def Sd (P : Program) (w0 : World) (E : Nat → Prop) (w : World) (loc : Loc) (wr : Bool) (nm : Nat) (out : Out) (o : Oper) (a : Act) : Prop :=
 ∀ (next : Act → World → Prop) (Q : Exit → Act → World → Prop),(∀ v w' loc',Post w0 E w loc wr nm out.x out.H v w' loc' → next (a.put o.dst v) w') → o.wp P a w next Q
theorem zaw {w0 : World} {E : Nat → Prop} {w : World} {loc : Loc} {wr : Bool} {nm : Nat} {out : Out} {o : Oper} {a : Act} {v : Value} {w' : World} {loc' : Loc}
  (h : (execOp a.eval o).run P w = .ok (.value v) w') (hp : Post w0 E w loc wr nm out.x out.H v w' loc') : Sd P w0 E w loc wr nm out o a := by
 intro next Q hn
 unfold Oper.wp
 rw [h]
 exact hn v w' loc' hp
theorem ydz {w0 : World} {E : Nat → Prop} {w : World} {loc : Loc} {wr : Bool} {nm : Nat} {out : Out} {o : Oper} {a : Act} {w' : World} {loc' : Loc}
  (h : (execOp a.eval o).run P w = .ok .skip w') (hp : Post w0 E w loc wr nm out.x out.H undef w' loc') : Sd P w0 E w loc wr nm out o a := by
 intro next Q hn
 unfold Oper.wp
 rw [h]
 exact hn undef w' loc' hp
theorem zhd {w : World} {loc : Loc} {ls : List AV} {cs : Array Value} (h : CellsOf w loc ls cs.toList) (j : Nat) (h1 : j < ls.length) (h2 : j < cs.size) : ls[j].leaf = true ∧ R w loc ls[j] cs[j] :=
 ⟨h.leaf j h1,h.r j h1 (by simpa using h2)⟩
theorem zvt : ∀ {ls : List AV} {ys : List UInt8},zou ls = some ys → ls = ys.map fun b => .w (byte b)
 | [],ys,h => by injection h with h; subst h; rfl
 | x :: r,ys,h => by
  unfold zou at h
  split at h
  ·rename_i he; cases he
  ·rename_i m r' he
   injection he with h1 h2; subst h1 h2
   split at h
   ·rename_i hc
    split at h
    ·rename_i l hl
     injection h with h; subst h
     rw [List.map_cons,← zvt hl,yhl hc.1 hc.2]
    ·cases h
   ·cases h
  ·cases h
theorem yje {blk : Blk} {i : Nat} {x : AV} (hp : (layB blk i x).1) :
  (layB blk i x).2.ok ∧ i + x.leaves.length ≤ blk.flat.length ∧ (layB blk i x).2.flat = splice blk.flat i x.leaves ∧ (layB blk i x).2.size = blk.size ∧ (layB blk i x).2.odd = none := by
 unfold layB at hp ⊢
 cases blk with
 | b bs =>
  simp only at hp ⊢
  cases hy : zou x.leaves with
  | none => rw [hy] at hp; exact hp.elim
  | some ys =>
   rw [hy] at hp
   simp only at hp ⊢
   have e := zvt hy
   have hl : x.leaves.length = ys.length := by rw [e]; simp
   refine ⟨trivial,by simp only [Blk.flat,List.length_map]; omega,?_,rfl,trivial⟩
   simp only [Blk.flat,splice]
   rw [e]
   simp [List.map_take,List.map_drop]
 | _ => exact hp.elim
theorem ybh {w0 : World} {E : Nat → Prop} {w : World} {loc : Loc} {H : Heap} {T : zac} (hT : TOk P T) (he : Env w0 E w loc) (hh : HR w loc H) {nm : Nat} {t : TypeId} {p x : AV} {vp vx : Value}
  (hvp : R w loc p vp) (hvx : R w loc x vx) (hp : (zjb T t p x H).p) :
  ∃ w',(Instr.storeAt t vp vx).run P w = .ok () w' ∧ Post w0 E w loc true nm (zjb T t p x H).x (zjb T t p x H).H undef w' loc := by
 unfold zjb at hp ⊢
 cases ht : T t with
 | none => simp [ht,bad] at hp
 | some ti =>
  have hty := hT t ti ht
  cases hvp with
  | rf id s i f v h =>
   simp only [ht] at hp ⊢
   cases hl : look H id with
   | none => simp [hl,bad] at hp
   | some blk =>
    cases hm : zko ti blk with
    | true =>
     simp only [hl,hm,cond_true] at hp ⊢
     obtain ⟨rfl,rfl,hsz,hk,hset⟩ := hp
     have hodd : blk.odd = none := by
      cases blk with
      | o x => simp [zko] at hm
      | _ => rfl
     have hf : loc.m id ≠ .free := by intro e; simp [Points,e] at h
     obtain ⟨hok,hn | ⟨b,hb,hlies⟩⟩ := hh.get hl hf
     ·simp [Points,hn.1] at h
     ·simp only [Points,hb] at h
      rw [zbh (by decide)] at h
      subst h
      obtain ⟨cur,e,fz,hheap,hfz,hone,hlen,hr⟩ := hlies.lies hodd
      obtain ⟨f1,f2,f3,f4,f5⟩ := yje hset
      have hco := zed hvx hk
      obtain ⟨w',cur',r1,r2,r3,r4,r5,r6,r7,r8,r9⟩ := zbr (P := P) b (i) e fz vx.cells.toList 0 cur w hheap (zoa hfz) (by rw [← hco.len]; omega) hco.one
      refine ⟨w',?_,?_⟩
      ·have hs := zay hty w
       have hsz2 : vx.cells.size = ti.size := by rw [← hsz,hco.len]; simp
       simp [Instr.storeAt,Instr.sureAddr,storeVar,hs,hsz2,r1]
      ·have hfl : (layB blk i x).2.flat.length = blk.flat.length := by rw [f3,zck f2]
       refine zin he hh hb hheap r2 r3 r4 r5 r6 r7 r8 f1 (by rw [f4]; exact hfz) ?_ (by rw [hfl,r3]; exact hlen) ?_ (fun _ _ => .junk _) f5
       ·intro j hj
        have := r9 j (by rw [← r3]; exact hj)
        rw [Array.getElem?_eq_getElem hj] at this
        split at this
        ·rw [List.getElem?_eq_getElem (by omega)] at this
         injection this with this
         rw [this]; exact hco.one _ (List.getElem_mem _)
        ·rw [Array.getElem?_eq_getElem (by rw [← r3]; exact hj)] at this
         injection this with this
         rw [this]; exact hone j _
       ·intro j hj hj'
        have h9 := r9 j (by rw [← r3]; exact hj')
        rw [Array.getElem?_eq_getElem hj'] at h9
        have hg : (layB blk i x).2.flat[j] = (splice blk.flat (i) x.leaves)[j]'(by rw [← f3]; exact hj) := by congr 1
        rw [hg,zdj f2 (by rw [← hfl]; exact hj)]
        have hlen2 := hco.len
        by_cases hc : i ≤ j ∧ j < i + x.leaves.length
        ·rw [if_pos (by omega),List.getElem?_eq_getElem (by omega)] at h9
         injection h9 with h9
         rw [dif_pos hc,h9]
         simp only [Nat.add_zero]
         exact ⟨hco.leaf _ (by omega),hco.r _ (by omega) (by omega)⟩
        ·rw [if_neg (by omega),Array.getElem?_eq_getElem (by rw [← r3]; exact hj')] at h9
         injection h9 with h9
         rw [dif_neg hc,h9]
         exact hr j (by rw [← hfl]; exact hj) _
    | false =>
    simp only [hl,hm,cond_false] at hp ⊢
    obtain ⟨rfl,hi,hsz,hk,hset⟩ := hp
    have hf : loc.m id ≠ .free := by intro e; simp [Points,e] at h
    obtain ⟨hok,hn | ⟨b,hb,hlies⟩⟩ := hh.get hl hf
    ·simp [Points,hn.1] at h
    ·simp only [Points,hb] at h
     rw [zbh (Nat.ne_of_gt (zmu hok))] at h
     subst h
     obtain ⟨cur,e,fz,hheap,hfz,hone,hlen,hr⟩ := hlies.lies (zlp hi)
     obtain ⟨f1,f2,f3⟩ := zxl hok hi hset
     have hco := zed hvx hk
     obtain ⟨w',cur',r1,r2,r3,r4,r5,r6,r7,r8,r9⟩ := zbr (P := P) b (i * blk.size + f) e fz vx.cells.toList 0 cur w hheap (zoa hfz) (by rw [← hco.len]; omega) hco.one
     refine ⟨w',?_,?_⟩
     ·have hs := zay hty w
      have hsz2 : vx.cells.size = ti.size := by rw [← hsz,hco.len]; simp
      simp [Instr.storeAt,Instr.sureAddr,storeVar,hs,hsz2,r1]
     ·have hfl : (setB blk i f x).2.flat.length = blk.flat.length := by rw [f3,zck f2]
      refine zin he hh hb hheap r2 r3 r4 r5 r6 r7 r8 f1 (by rw [(zrv hok hi hset).2.2.1]; exact hfz) ?_ (by rw [hfl,r3]; exact hlen) ?_ (fun _ _ => .junk _) (zlp (i := i) (by rw [(zrv hok hi hset).2.1]; exact hi))
      ·intro j hj
       have := r9 j (by rw [← r3]; exact hj)
       rw [Array.getElem?_eq_getElem hj] at this
       split at this
       ·rw [List.getElem?_eq_getElem (by omega)] at this
        injection this with this
        rw [this]; exact hco.one _ (List.getElem_mem _)
       ·rw [Array.getElem?_eq_getElem (by rw [← r3]; exact hj)] at this
        injection this with this
        rw [this]; exact hone j _
      ·intro j hj hj'
       have h9 := r9 j (by rw [← r3]; exact hj')
       rw [Array.getElem?_eq_getElem hj'] at h9
       have hg : (setB blk i f x).2.flat[j] = (splice blk.flat (i * blk.size + f) x.leaves)[j]'(by rw [← f3]; exact hj) := by congr 1
       rw [hg,zdj f2 (by rw [← hfl]; exact hj)]
       have hlen2 := hco.len
       by_cases hc : i * blk.size + f ≤ j ∧ j < i * blk.size + f + x.leaves.length
       ·rw [if_pos (by omega),List.getElem?_eq_getElem (by omega)] at h9
        injection h9 with h9
        rw [dif_pos hc,h9]
        simp only [Nat.add_zero]
        exact ⟨hco.leaf _ (by omega),hco.r _ (by omega) (by omega)⟩
       ·rw [if_neg (by omega),Array.getElem?_eq_getElem (by rw [← r3]; exact hj')] at h9
        injection h9 with h9
        rw [dif_neg hc,h9]
        exact hr j (by rw [← hfl]; exact hj) _
  | _ => simp [ht,bad] at hp
theorem yaq {w0 : World} {E : Nat → Prop} {w : World} {loc : Loc} {H : Heap} (he : Env w0 E w loc) (hh : HR w loc H) {nm s : Nat} (hf : loc.m nm = .free) {e : TypeId} {x : AV} {v : Value}
  (hv : R w loc x v) (hs : 0 < s) (hl : x.leaves.length = s) (hk : x.okv = true) (wr : Bool) :
  ∃ w',(newVar e v).run P w = .ok ⟨w.heap.size,0,none⟩ w' ∧ Post w0 E w loc wr nm (.rf nm s 0 0) (put H nm (.g s [x])) (.pointer (some ⟨w.heap.size,0,none⟩)) w' (loc.set nm (.here w.heap.size)) := by
 have hco := zed hv hk
 refine ⟨{ w with heap := w.heap.push (.cells v.cells e) },rfl,?_⟩
 have hlen := hco.len
 refine zgj (cur := v.cells) (e := e) (fz := (0,0)) he hh hf ⟨rfl,rfl,rfl,rfl⟩ ⟨hs,by simpa using hl⟩ (.inl rfl) (fun j hj => hco.one _ (by simp)) (by simp [Blk.flat]; simpa using Nat.le_of_eq hlen) ?_ ?_
 ·intro j h1 h2
  have := zhd (cs := v.cells) hco j (by simpa [Blk.flat] using h1) h2
  simpa [Blk.flat] using this
 ·intro w' loc' h1 _
  exact .rf nm s 0 0 _ (by simp [Points,h1,zbh (Nat.ne_of_gt hs)])
theorem zya {t : TypeId} {i : TyI} (h : TyR P t i) {w : World} {loc : Loc} {z : Value} (hz : CellsOf w loc i.zero z.cells.toList) (hl : z.cells.toList.length = i.size) : (asv i i.zero).okv = true ∧ (asv i i.zero).leaves.length = i.size ∧ (asv i i.zero).leaves = i.zero := by
 unfold asv
 cases ha : i.d.aggr with
 | true => exact ⟨rfl,by simp [AV.leaves]; rw [hz.len,hl],rfl⟩
 | false =>
  have hs : i.size = 1 := by obtain ⟨_,_,_,_,_,_,_,_,_,h8⟩ := h.info; exact (h8 ha).2.2
  have h0 : i.zero.length = 1 := by rw [hz.len,hl,hs]
  have h1 : 0 < i.zero.length := by omega
  simp only [cond_false]
  rw [zfd h1]
  have h2 := hz.leaf 0 h1
  have h3 : i.zero = [i.zero[0]] := by
   refine List.ext_getElem (by simp [h0]) fun j a b => ?_
   obtain rfl : j = 0 := by omega
   simp
  refine ⟨?_,by rw [zjo h2,hs]; rfl,by rw [zjo h2]; exact h3.symm⟩
  cases hx : i.zero[0] <;> rw [hx] at h2 <;> first | exact h2 | rfl
theorem ydl {w0 : World} {E : Nat → Prop} {w : World} {loc : Loc} {H : Heap} {T : zac} (hT : TOk P T) (he : Env w0 E w loc) (hh : HR w loc H) {nm : Nat} (hf : loc.m nm = .free) {e : TypeId} (hp : (aAlloc T nm e H).p) (wr : Bool) (old : Value) :
  ∃ v w' loc',(Instr.alloc e true old).run P w = .ok v w' ∧ Post w0 E w loc wr nm (aAlloc T nm e H).x (aAlloc T nm e H).H v w' loc' := by
 unfold aAlloc at hp ⊢
 cases ht : T e with
 | none => simp [ht,bad] at hp
 | some ti =>
  simp only [ht] at hp ⊢
  have hty := hT e ti ht
  obtain ⟨z,hz,hzl,hzr⟩ := zbk hty w
  obtain ⟨hzc,hzv⟩ := hzr w loc
  obtain ⟨k1,k2,_⟩ := zya hty hzc hzl
  cases hba : zjx ti with
  | true =>
   simp only [hba,cond_true] at hp ⊢
   have hzz : ∀ (l : List AV),zpv l = true → l = (List.replicate l.length (0 : UInt8)).map fun b => AV.w (byte b) := by
    intro l
    induction l with
    | nil => intro _; rfl
    | cons y r ih =>
     intro h
     simp only [zpv,Bool.and_eq_true] at h
     have h1 : y = .w (byte 0) := by
      have := h.1
      unfold isZ8 at this
      split at this
      ·simp only [decide_eq_true_eq] at this; subst this; rfl
      ·cases this
     rw [List.length_cons,List.replicate_succ,List.map_cons,← ih h.2,h1]
   have hz8 : zpv ti.zero = true := by
    unfold zjx at hba
    split at hba
    ·exact hba
    ·cases hba
   have hzn : ti.zero.length = ti.size := by rw [hzc.len,hzl]
   have hfl : (Blk.b (List.replicate ti.size 0)).flat = ti.zero := by
    rw [hzz _ hz8,hzn]; rfl
   refine ⟨_,{ w with heap := w.heap.push (.cells z.cells e) },loc.set nm (.here w.heap.size),by simp [Instr.alloc,hz]; rfl,?_⟩
   refine zgj (cur := z.cells) (e := e) (fz := (0,0)) he hh hf ⟨rfl,rfl,rfl,rfl⟩ trivial (.inl rfl) (fun j hj => hzc.one _ (by simp)) (by rw [hfl,hzn]; exact Nat.le_of_eq (by simpa using hzl.symm)) ?_ ?_
   ·intro j h1 h2
    have h1' : j < ti.zero.length := by rw [← hfl]; exact h1
    have := zhd (cs := z.cells) hzc j h1' h2
    have hg : (Blk.b (List.replicate ti.size 0)).flat[j] = ti.zero[j] := by congr 1
    rw [hg]; exact this
   ·intro w' loc' h1 _
    exact .rf nm 1 0 0 _ (by simp [Points,h1,zbh])
  | false =>
  simp only [hba,cond_false] at hp ⊢
  obtain ⟨w',h1,h2⟩ := yaq (P := P) (e := e) he hh hf hzv hp k2 k1 wr
  refine ⟨_,w',_,?_,h2⟩
  simp [Instr.alloc,hz,h1]
theorem zqr (off : Nat) : ∀ (l : List Value) (s : Nat) (cs : Array Value),off + s + l.length ≤ cs.size →
  ((l.zipIdx s).foldl (fun cs (p : Value × Nat) => cs.setIfInBounds (off + p.2) p.1) cs).size = cs.size ∧
  ∀ j,j < cs.size → ((l.zipIdx s).foldl (fun cs (p : Value × Nat) => cs.setIfInBounds (off + p.2) p.1) cs)[j]? = if off + s ≤ j ∧ j < off + s + l.length then l[j - (off + s)]? else cs[j]?
 | [],s,cs,_ => ⟨rfl,fun j _ => by rw [if_neg (by simp)]; rfl⟩
 | v :: r,s,cs,h => by
  simp only [List.zipIdx_cons,List.foldl_cons]
  obtain ⟨h1,h2⟩ := zqr off r (s + 1) (cs.setIfInBounds (off + s) v) (by simp at h ⊢; omega)
  refine ⟨by rw [h1]; simp,fun j hj => ?_⟩
  rw [h2 j (by simpa using hj)]
  by_cases he : j = off + s
  ·subst he
   rw [if_neg (by omega),if_pos (by simp)]
   simp [hj]
  ·by_cases h11 : off + (s + 1) ≤ j ∧ j < off + (s + 1) + r.length
   ·rw [if_pos h11,if_pos (by simp; omega)]
    have : j - (off + s) = (j - (off + (s + 1))) + 1 := by omega
    rw [this]; simp
   ·rw [if_neg h11,if_neg (by simp; omega),Array.getElem?_setIfInBounds,if_neg (by omega)]
def lay (cs : Array Value) (off : Nat) (v : Value) : Array Value := v.cells.zipIdx.foldl (fun cs (p : Value × Nat) => cs.setIfInBounds (off + p.2) p.1) cs
theorem zhv {w : World} {loc : Loc} {ls vs : List AV} {cs : Array Value} {v : Value} {off : Nat} (h : CellsOf w loc ls cs.toList) (hv : CellsOf w loc vs v.cells.toList) (ho : off + vs.length ≤ ls.length) :
  (lay cs off v).size = cs.size ∧ CellsOf w loc (splice ls off vs) (lay cs off v).toList := by
 have hl := h.len
 have hvl := hv.len
 have he : lay cs off v = (v.cells.toList.zipIdx 0).foldl (fun cs (p : Value × Nat) => cs.setIfInBounds (off + p.2) p.1) cs := by
  unfold lay; rw [← Array.foldl_toList]; simp
 obtain ⟨h1,h2⟩ := zqr off v.cells.toList 0 cs (by simp at hl hvl ⊢; omega)
 rw [← he] at h1 h2
 refine ⟨h1,by rw [zck ho]; simp at hl ⊢; omega,fun j hj => ?_,fun j hj hj' => ?_⟩
 ·rw [zdj ho (by rw [zck ho] at hj; exact hj)]
  split
  ·exact hv.leaf _ _
  ·exact h.leaf _ _
 ·have hjl : j < ls.length := by rw [zck ho] at hj; exact hj
  have hjc : j < cs.size := by simp at hl; omega
  rw [zdj ho hjl]
  have h3 := h2 j hjc
  have hjs : j < (lay cs off v).size := by omega
  rw [Array.getElem?_eq_getElem hjs] at h3
  simp only [Array.getElem_toList]
  by_cases hc : off ≤ j ∧ j < off + vs.length
  ·rw [if_pos (by omega),List.getElem?_eq_getElem (by omega)] at h3
   injection h3 with h3
   rw [dif_pos hc,h3]
   exact hv.r (j - off) (by omega) (by omega)
  ·rw [if_neg (by omega),Array.getElem?_eq_getElem hjc] at h3
   injection h3 with h3
   rw [dif_neg hc,h3]
   exact h.r j hjl (by simpa using hjc)
theorem zib {place : Nat → Option (Nat × Nat)} {cs : Array Value} {i off size : Nat} {v : Value} {r : List (Nat × Value)} (hpl : place i = some (off,size)) (hs : v.cells.size = size) (ho : off + size ≤ cs.size) :
  Instr.fill place cs ((i,v) :: r) = Instr.fill place (lay cs off v) r := by
 rw [Instr.fill]
 simp only [hpl]
 rw [if_neg (by simp; omega)]
 rfl
end ops
end Ax
end Go.Proofs.Ytdfgfdcfcdgadaa
namespace Go.Proofs.Ytdfgfdcfcdgadaa
namespace Ax
section ops
variable {P : Program}
inductive PR (w : World) (loc : Loc) : List (Nat × AV) → List (Nat × Value) → Prop where
 | nil : PR w loc [] []
 | cons {i : Nat} {x : AV} {v : Value} {ps : List (Nat × AV)} {pv : List (Nat × Value)} (h : R w loc x v) (r : PR w loc ps pv) : PR w loc ((i,x) :: ps) ((i,v) :: pv)
theorem zto {T : zac} (hT : TOk P T) : ∀ (gs : List Field),allTy T (gs.map fun f => (f.offset,f.type)) →
  ∃ places,gs.mapM (fun f => (P.info? f.type).map fun i => (f.offset,i.size)) = some places ∧ ∀ (i : Nat) (off : Nat) (ty : TypeId) (ti : TyI),(gs.map fun f => (f.offset,f.type))[i]? = some (off,ty) → T ty = some ti → places[i]? = some (off,ti.size)
 | [],_ => ⟨[],rfl,fun i off ty ti h _ => by simp at h⟩
 | g :: r,h => by
  simp only [List.map_cons,allTy] at h
  cases ht : T g.type with
  | none => simp [ht] at h
  | some ti =>
   simp only [ht] at h
   obtain ⟨pl,h1,h2⟩ := zto hT r h
   obtain ⟨inf,z,h3,h4,_⟩ := (hT _ _ ht).info
   refine ⟨(g.offset,inf.size) :: pl,by simp [List.mapM_cons,h3,h1],fun i off ty ti' hi hti => ?_⟩
   cases i with
   | zero =>
    simp only [List.map_cons,List.getElem?_cons_zero,Option.some.injEq,Prod.mk.injEq] at hi
    obtain ⟨rfl,rfl⟩ := hi
    rw [ht] at hti; injection hti with hti; subst hti
    simp [h4]
   | succ i => exact h2 i off ty ti' (by simpa using hi) hti
theorem zof {T : zac} {fs : List (Nat × TypeId)} {places : List (Nat × Nat)} (hpl : ∀ (i : Nat) (off : Nat) (ty : TypeId) (ti : TyI),fs[i]? = some (off,ty) → T ty = some ti → places[i]? = some (off,ti.size)) {w : World} {loc : Loc} :
  ∀ (ps : List (Nat × AV)) (pv : List (Nat × Value)) (ls : List AV) (cs : Array Value),PR w loc ps pv → CellsOf w loc ls cs.toList → (fillS T fs ps ls).1 →
   ∃ cs',Instr.fill (places.toArray[·]?) cs pv = some cs' ∧ CellsOf w loc (fillS T fs ps ls).2 cs'.toList
 | _,_,ls,cs,.nil,hc,_ => ⟨cs,rfl,hc⟩
 | _,_,ls,cs,.cons (i := i) (x := x) (v := v) (ps := ps) (pv := pv) hx hr,hc,hp => by
  simp only [fillS] at hp ⊢
  cases hfi : fs[i]? with
  | none => simp [hfi] at hp
  | some q =>
   obtain ⟨off,ty⟩ := q
   simp only [hfi] at hp ⊢
   cases ht : T ty with
   | none => simp [ht] at hp
   | some ti =>
    simp only [ht] at hp ⊢
    obtain ⟨h1,h2,h3,h4⟩ := hp
    have hv := zed hx h2
    obtain ⟨l1,l2⟩ := zhv hc hv (off := off) (by omega)
    obtain ⟨cs',e1,e2⟩ := zof hpl ps pv _ _ hr l2 h4
    have hvs : v.cells.size = ti.size := by rw [← h1,hv.len]; simp
    have hcl := hc.len
    refine ⟨cs',?_,e2⟩
    rw [zib (off := off) (size := ti.size) (by simpa using hpl i off ty ti hfi ht) hvs (by simp at hcl; omega)]
    exact e1
theorem zoj {s : Nat} {w : World} {loc : Loc} :
  ∀ (ps : List (Nat × AV)) (pv : List (Nat × Value)) (ls : List AV) (cs : Array Value),PR w loc ps pv → CellsOf w loc ls cs.toList → (zpp s ps ls).1 →
   ∃ cs',Instr.fill (fun i => some (i * s,s)) cs pv = some cs' ∧ CellsOf w loc (zpp s ps ls).2 cs'.toList
 | _,_,ls,cs,.nil,hc,_ => ⟨cs,rfl,hc⟩
 | _,_,ls,cs,.cons (i := i) (x := x) (v := v) (ps := ps) (pv := pv) hx hr,hc,hp => by
  simp only [zpp] at hp ⊢
  obtain ⟨h1,h2,h3,h4⟩ := hp
  have hv := zed hx h2
  obtain ⟨l1,l2⟩ := zhv hc hv (off := i * s) (by omega)
  obtain ⟨cs',e1,e2⟩ := zoj ps pv _ _ hr l2 h4
  have hvs : v.cells.size = s := by rw [← h1,hv.len]; simp
  have hcl := hc.len
  refine ⟨cs',?_,e2⟩
  rw [zib (off := i * s) (size := s) rfl hvs (by simp at hcl; omega)]
  exact e1
theorem zxx {T : zac} (hT : TOk P T) {w : World} {loc : Loc} {H : Heap} {t : TypeId} {ps : List (Nat × AV)} {pv : Array (Nat × Value)} (hps : PR w loc ps pv.toList) (hp : (aBuild T t ps H).p) :
  ∃ v,(Instr.build t pv).run P w = .ok v w ∧ R w loc (aBuild T t ps H).x v ∧ (aBuild T t ps H).H = H := by
 unfold aBuild at hp ⊢
 cases ht : T t with
 | none => simp [ht,bad] at hp
 | some ti =>
  have hty := hT t ti ht
  obtain ⟨inf,z,i1,i2,i3,i4,i5,i6,i7,i8⟩ := hty.info
  have hz := zlj i6
  have hzc : CellsOf w loc ti.zero z.cells.toList := ⟨hz.1,fun j hj => (zhm (hz.2 j hj (by rw [← hz.1]; exact hj))).1,fun j h1 h2 => (zhm (hz.2 j h1 h2)).2.2.2 w loc⟩
  have hd := hty.d
  simp only [ht] at hp ⊢
  have fin : ∀ {ls : List AV} {cs : Array Value},CellsOf w loc ls cs.toList → R w loc (.agg ls) (.agg cs) := by
   intro ls cs hc
   have := R.agg (w := w) (loc := loc) ls cs.toList hc.len hc.leaf hc.r
   simpa using this
  cases hdd : ti.d with
  | struct fs =>
   simp only [hdd] at hp ⊢
   rw [hdd] at hd
   obtain ⟨gs,g1,rfl⟩ := hd
   obtain ⟨places,p1,p2⟩ := zto hT gs.toList hp.1
   obtain ⟨cs',f1,f2⟩ := zof p2 ps pv.toList ti.zero z.cells hps hzc hp.2
   exact ⟨.agg cs',run_build w t pv cs' (by simp only [Program.built,i1,g1,i4,p1]; exact f1),fin f2,by simp⟩
  | arr n e =>
   simp only [hdd] at hp ⊢
   rw [hdd] at hd
   cases hte : T e with
   | none => simp [hte,bad] at hp
   | some te =>
    simp only [hte] at hp ⊢
    obtain ⟨inf2,z2,j1,j2,_⟩ := (hT e te hte).info
    obtain ⟨cs',f1,f2⟩ := zoj ps pv.toList ti.zero z.cells hps hzc hp
    rw [← j2] at f1
    have hd' : P.underlying t = some (.array n e) := hd
    exact ⟨.agg cs',run_build w t pv cs' (by simp [Program.built,i1,hd',i4,j1,f1]),fin f2,by simp⟩
  | _ => simp [hdd,bad] at hp
theorem zbl {s : Nat} : ∀ (xs : List AV) (i : Nat),(∀ x ∈ xs,x.leaves.length = s) → (xs.take i).flatMap AV.leaves = (xs.flatMap AV.leaves).take (i * s)
 | [],i,_ => by simp
 | x :: r,0,_ => by simp
 | x :: r,i + 1,h => by
  have hx : x.leaves.length = s := h x (by simp)
  simp only [List.take_succ_cons,List.flatMap_cons]
  rw [zbl r i (fun y hy => h y (by simp [hy])),List.take_append,Nat.succ_mul,hx]
  congr 1
  ·rw [List.take_of_length_le (by omega)]
  ·congr 1; omega
theorem zbt {s : Nat} : ∀ (xs : List AV) (i : Nat),(∀ x ∈ xs,x.leaves.length = s) → (xs.drop i).flatMap AV.leaves = (xs.flatMap AV.leaves).drop (i * s)
 | [],i,_ => by simp
 | x :: r,0,_ => by simp
 | x :: r,i + 1,h => by
  have hx : x.leaves.length = s := h x (by simp)
  simp only [List.drop_succ_cons,List.flatMap_cons]
  rw [zbt r i (fun y hy => h y (by simp [hy])),List.drop_append,Nat.succ_mul,hx]
  rw [List.drop_of_length_le (l := x.leaves) (by omega),List.nil_append]
  congr 1; omega
theorem ycv {s : Nat} {xs : List AV} (hok : Blk.ok (.g s xs)) {i : Nat} {x : AV} (hi : i < xs.length) (hx : x.leaves.length = s) :
  Blk.ok (.g s (setSlot xs i x)) ∧ Blk.flat (.g s (setSlot xs i x)) = splice (Blk.flat (.g s xs)) (i * s) x.leaves := by
 obtain ⟨h0,hs⟩ := hok
 rw [zdk]
 refine ⟨⟨h0,fun z hz => ?_⟩,?_⟩
 ·rcases List.mem_or_eq_of_mem_set hz with h | h
  ·exact hs z h
  ·rw [h]; exact hx
 ·simp only [Blk.flat,splice,hx]
  rw [List.set_eq_take_append_cons_drop,if_pos hi,List.flatMap_append,List.flatMap_cons,zbl xs i hs,zbt xs (i + 1) hs,Nat.succ_mul]
theorem zoi {w : World} {loc : Loc} :
  ∀ (ps : List (Nat × AV)) (pv : List (Nat × Value)) (bs : List UInt8) (cs : Array Value),PR w loc ps pv → CellsOf w loc (Blk.flat (.b bs)) cs.toList → (fillB ps bs).1 →
   ∃ cs',Instr.fill (fun i => some (i * 1,1)) cs pv = some cs' ∧ CellsOf w loc (Blk.flat (.b (fillB ps bs).2)) cs'.toList
 | _,_,bs,cs,.nil,hc,_ => ⟨cs,rfl,hc⟩
 | _,_,bs,cs,.cons (i := i) (x := x) (v := v) (ps := ps) (pv := pv) hx hr,hc,hp => by
  simp only [fillB] at hp ⊢
  split at hp
  ·rename_i m
   obtain ⟨h1,h2,h3,h4⟩ := hp
   have hv := zed hx rfl
   obtain ⟨_,f2,f3⟩ := zxl (blk := .b bs) trivial (i := i) (f := 0) (x := .w (.int .u8 m)) h1 ⟨rfl,h2,h3⟩
   obtain ⟨l1,l2⟩ := zhv hc hv (off := i * 1) (by simpa [Blk.size] using f2)
   have f3' : Blk.flat (.b (bs.set i (UInt8.ofNat m.toNat))) = splice (Blk.flat (.b bs)) (i * 1) (AV.leaves (.w (.int .u8 m))) := by simpa [setB,Blk.size] using f3
   rw [← f3'] at l2
   obtain ⟨cs',e1,e2⟩ := zoi ps pv _ _ hr l2 h4
   have hvl := hv.len
   have hcl := hc.len
   refine ⟨cs',?_,e2⟩
   rw [zib (off := i * 1) (size := 1) rfl (by simpa [AV.leaves] using hvl.symm) (by simp [Blk.flat] at hcl; omega)]
   exact e1
  ·exact hp.elim
theorem zog {w : World} {loc : Loc} :
  ∀ (ps : List (Nat × AV)) (pv : List (Nat × Value)) (ns : List Int) (cs : Array Value),PR w loc ps pv → CellsOf w loc (Blk.flat (.i ns)) cs.toList → (fillI ps ns).1 →
   ∃ cs',Instr.fill (fun i => some (i * 1,1)) cs pv = some cs' ∧ CellsOf w loc (Blk.flat (.i (fillI ps ns).2)) cs'.toList
 | _,_,ns,cs,.nil,hc,_ => ⟨cs,rfl,hc⟩
 | _,_,ns,cs,.cons (i := i) (x := x) (v := v) (ps := ps) (pv := pv) hx hr,hc,hp => by
  simp only [fillI] at hp ⊢
  split at hp
  ·rename_i m
   obtain ⟨h1,h4⟩ := hp
   have hv := zed hx rfl
   obtain ⟨_,f2,f3⟩ := zxl (blk := .i ns) trivial (i := i) (f := 0) (x := .w (.int .i64 m)) h1 rfl
   obtain ⟨l1,l2⟩ := zhv hc hv (off := i * 1) (by simpa [Blk.size] using f2)
   have f3' : Blk.flat (.i (ns.set i m)) = splice (Blk.flat (.i ns)) (i * 1) (AV.leaves (.w (.int .i64 m))) := by simpa [setB,Blk.size] using f3
   rw [← f3'] at l2
   obtain ⟨cs',e1,e2⟩ := zog ps pv _ _ hr l2 h4
   have hvl := hv.len
   have hcl := hc.len
   refine ⟨cs',?_,e2⟩
   rw [zib (off := i * 1) (size := 1) rfl (by simpa [AV.leaves] using hvl.symm) (by simp [Blk.flat] at hcl; omega)]
   exact e1
  ·exact hp.elim
theorem zoh {s : Nat} {w : World} {loc : Loc} :
  ∀ (ps : List (Nat × AV)) (pv : List (Nat × Value)) (xs : List AV) (cs : Array Value),PR w loc ps pv → Blk.ok (.g s xs) → CellsOf w loc (Blk.flat (.g s xs)) cs.toList → (fillG s ps xs).1 →
   ∃ cs',Instr.fill (fun i => some (i * s,s)) cs pv = some cs' ∧ CellsOf w loc (Blk.flat (.g s (fillG s ps xs).2)) cs'.toList ∧ Blk.ok (.g s (fillG s ps xs).2)
 | _,_,xs,cs,.nil,hok,hc,_ => ⟨cs,rfl,hc,hok⟩
 | _,_,xs,cs,.cons (i := i) (x := x) (v := v) (ps := ps) (pv := pv) hx hr,hok,hc,hp => by
  simp only [fillG] at hp ⊢
  obtain ⟨h1,h2,h3,h4⟩ := hp
  have hv := zed hx h3
  obtain ⟨f1,f3⟩ := ycv hok h1 h2
  have hfl := zbn hok
  have hle : i * s + s ≤ (Blk.flat (.g s xs)).length := by
   have := Nat.mul_le_mul_right s (show i + 1 ≤ xs.length from h1)
   rw [Nat.succ_mul] at this; rw [hfl]; exact this
  obtain ⟨l1,l2⟩ := zhv hc hv (off := i * s) (by omega)
  rw [← f3] at l2
  obtain ⟨cs',e1,e2⟩ := zoh ps pv _ _ hr f1 l2 h4
  have hvs : v.cells.size = s := by rw [← h2,hv.len]; simp
  have hcl := hc.len
  refine ⟨cs',?_,e2⟩
  rw [zib (off := i * s) (size := s) rfl hvs (by simp at hcl; omega)]
  exact e1
theorem zuz : ∀ (ps : List (Nat × AV)) (bs : List UInt8),(fillB ps bs).1 → (fillB ps bs).2.length = bs.length
 | [],bs,_ => rfl
 | (i,x) :: r,bs,h => by
  simp only [fillB] at h ⊢
  split at h
  ·rw [zuz r _ h.2.2.2]; simp
  ·exact h.elim
theorem zux : ∀ (ps : List (Nat × AV)) (ns : List Int),(fillI ps ns).1 → (fillI ps ns).2.length = ns.length
 | [],ns,_ => rfl
 | (i,x) :: r,ns,h => by
  simp only [fillI] at h ⊢
  split at h
  ·rw [zux r _ h.2]; simp
  ·exact h.elim
theorem zuy {s : Nat} : ∀ (ps : List (Nat × AV)) (xs : List AV),(fillG s ps xs).1 → (fillG s ps xs).2.length = xs.length
 | [],xs,_ => rfl
 | (i,x) :: r,xs,h => by
  simp only [fillG] at h ⊢
  rw [zuy r _ h.2.2.2,zdk]; simp
theorem zey {t : TypeId} {i : TyI} {z : Value} {w : World} {loc : Loc} (hz : CellsOf w loc i.zero z.cells.toList) (hl : z.cells.toList.length = i.size) (h0 : 0 < i.size) (hy : TyR P t i) (n : Nat) :
  Blk.ok (.g i.size (List.replicate n (asv i i.zero))) ∧ CellsOf w loc (Blk.flat (.g i.size (List.replicate n (asv i i.zero)))) ((Array.range (n * i.size)).map (z.cells[· % z.cells.size]!)).toList := by
 obtain ⟨k1,k2,k3⟩ := zya hy hz hl
 have hzl := hz.len
 have hok : Blk.ok (.g i.size (List.replicate n (asv i i.zero))) := ⟨h0,fun x hx => by rw [List.eq_of_mem_replicate hx]; exact k2⟩
 have hfl := zbn hok
 simp only [Blk.len,List.length_replicate,Blk.size] at hfl
 have hzs : z.cells.size = i.size := by simpa using hl
 have key : ∀ (j : Nat) (hj : j < (Blk.flat (.g i.size (List.replicate n (asv i i.zero)))).length),(Blk.flat (.g i.size (List.replicate n (asv i i.zero))))[j] = i.zero[j % i.size]'(by rw [hzl,hl]; exact Nat.mod_lt _ h0) := by
  intro j hj
  have hq : j / i.size < n := by rw [Nat.div_lt_iff_lt_mul h0]; omega
  have hr : j % i.size < i.size := Nat.mod_lt _ h0
  have hjq : j = j / i.size * i.size + j % i.size := by rw [Nat.mul_comm]; exact (Nat.div_add_mod j i.size).symm
  obtain ⟨a1,a2,a3⟩ := zgm hok (i := j / i.size) (by simpa [Blk.len] using hq)
  have := a3 (j % i.size) (by rw [a1]; exact hr) (by simp only [Blk.size]; omega)
  have e : (Blk.flat (.g i.size (List.replicate n (asv i i.zero))))[j] = (zan (.g i.size (List.replicate n (asv i i.zero))) (j / i.size))[j % i.size]'(by rw [a1]; exact hr) := by
   rw [← this]; congr 1
  rw [e]
  have e2 : zan (.g i.size (List.replicate n (asv i i.zero))) (j / i.size) = i.zero := by
   simp only [zan]
   rw [zfd (by simpa using hq)]
   simp [k3]
  simp [e2]
 refine ⟨hok,by rw [hfl]; simp,fun j hj => ?_,fun j h1 h2 => ?_⟩
 ·rw [key j hj]; exact hz.leaf _ _
 ·rw [key j h1]
  have hm : j % i.size < z.cells.size := by rw [hzs]; exact Nat.mod_lt _ h0
  have := hz.r (j % i.size) (by rw [hzl,hl]; exact Nat.mod_lt _ h0) (by simpa using hm)
  simp only [Array.toList_map,List.getElem_map,Array.getElem_toList,Array.getElem_range]
  rw [hzs,getElem!_pos _ _ (by rw [hzs]; exact Nat.mod_lt _ h0)]
  exact this
end ops
end Ax
end Go.Proofs.Ytdfgfdcfcdgadaa
namespace Go.Proofs.Ytdfgfdcfcdgadaa
namespace Ax
section ops
variable {P : Program}
structure Seen (w : World) (loc : Loc) (v : Value) (n s : Nat) (fl : List AV) : Prop where
 seen : ∃ a cap,v = .slice a n cap ∧ n ≤ cap ∧ cap ≤ maxLen ∧ (n = 0 ∨ ∃ b o cs,a = some ⟨b,o,none⟩ ∧ b < w.heap.size ∧ cs.length = n * s ∧ (∀ (j : Nat) (hj : j < cs.length),w.cell? ⟨b,o + j,none⟩ = some cs[j]) ∧ CellsOf w loc fl cs)
 len : fl.length = n * s
theorem zff {w : World} {loc : Loc} {H : Heap} (hh : HR w loc H) {id s off len : Nat} {blk : Blk} {v : Value} (h : Owns w loc id s off len v) (hl : look H id = some blk) (hs : blk.size = s) (hle : off + len ≤ blk.len) :
  Seen w loc v len s ((blk.flat.drop (off * s)).take (len * s)) := by
 have hf : loc.m id ≠ .free := by intro e; simp [Owns,e] at h
 obtain ⟨hok,hn | ⟨b,hb,hlies⟩⟩ := hh.get hl hf
 ·unfold Owns at h; rw [hn.1] at h
  obtain ⟨h1,a,rfl⟩ := h
  subst h1
  exact ⟨⟨a,0,rfl,Nat.le_refl _,Nat.zero_le _,.inl rfl⟩,by simp⟩
 ·unfold Owns at h; rw [hb] at h
  obtain ⟨o,cap,cur0,e0,fz0,rfl,ho,hh0,hsz,hlc,htop⟩ := h
  have hodd : blk.odd = none := by
   rcases zbi blk with ⟨x,hx,rfl⟩ | hx
   ·exact (Thing.no_cells (hlies.is hx) hh0).elim
   ·exact hx
  obtain ⟨cur,e,fz,hheap,hfz,hone,hlen,hr⟩ := hlies.lies hodd
  rw [hh0] at hheap; injection hheap with hheap; injection hheap with q1 q2 q3; subst q1 q2 q3
  have hfl := zbn hok
  rw [hs] at hfl
  have hmul : off * s + len * s ≤ blk.len * s := by rw [← Nat.add_mul]; exact Nat.mul_le_mul_right s hle
  have hll : ((blk.flat.drop (off * s)).take (len * s)).length = len * s := by simp; omega
  refine ⟨⟨_,cap,rfl,hlc,htop,?_⟩,hll⟩
  by_cases h0 : len = 0
  ·exact .inl h0
  refine .inr ⟨b,off * s,(cur0.toList.drop (off * s)).take (len * s),by rw [ho (by omega)],?_,by simp; omega,fun j hj => ?_,⟨by rw [hll]; simp; omega,fun j hj => ?_,fun j h1 h2 => ?_⟩⟩
  ·have := Array.getElem?_eq_some_iff.1 hh0; exact this.1
  ·have hj2 : off * s + j < cur0.size := by simp at hj; omega
   simp [World.cell?,hh0,Array.getElem?_eq_getElem hj2]
  ·have := hr (off * s + j) (by simp at hj; omega) (by simp at hj; omega)
   simpa using this.1
  ·have := hr (off * s + j) (by simp at h1; omega) (by simp at h1; omega)
   simpa using this.2
theorem zew {w : World} {loc : Loc} {a : Option Addr} {cap n s : Nat} {full : Bool} {cs : List Value} {fl : List AV} (hd : Dim n cap full) (hc : Cells w loc a cs) (hl : CellsOf w loc fl cs) (hn : cs.length = n * s) (hs : 0 < s) : Seen w loc (.slice a n cap) n s fl := by
 refine ⟨⟨a,cap,rfl,hd.le,hd.top,?_⟩,by rw [hl.len,hn]⟩
 obtain h | ⟨b,o,rfl,hm,hb,hcc⟩ := hc.lies
 ·left; subst h
  simp at hn
  rcases Nat.mul_eq_zero.1 hn.symm with h | h
  ·exact h
  ·omega
 ·exact .inr ⟨b,o,cs,rfl,hb,hn,hcc,hl⟩
theorem zeq {w : World} {loc : Loc} (bs : List UInt8) : CellsOf w loc (bs.map fun b => .w (byte b)) (bs.map byte) :=
 ⟨by simp,fun j hj => by simp [AV.leaf,byte,one],fun j h1 h2 => by simp only [List.getElem_map]; exact .w _ rfl⟩
theorem zgt {w : World} {loc : Loc} (ns : List Int) : CellsOf w loc (ns.map fun n => .w (word n)) (ns.map word) :=
 ⟨by simp,fun j hj => by simp [AV.leaf,word,one],fun j h1 h2 => by simp only [List.getElem_map]; exact .w _ rfl⟩
theorem zjf {w : World} {loc : Loc} {H : Heap} (hh : HR w loc H) {x : AV} {v : Value} (hx : R w loc x v) (hp : (zfb H x).1) : Seen w loc v (zfb H x).2.length 1 ((zfb H x).2.map fun b => .w (byte b)) := by
 cases hx with
 | sb bs full a cap hd hc =>
  simp only [zfb]
  exact zew hd hc (zeq bs) (by simp) Nat.one_pos
 | sg s xs full a cap cs hd hs hc hl hx h =>
  cases xs with
  | nil =>
   simp only [zfb]
   exact ⟨⟨a,cap,rfl,hd.le,hd.top,.inl rfl⟩,rfl⟩
  | cons => simp [zfb] at hp
 | ms id s off len v h =>
  simp only [zfb] at hp ⊢
  cases hl : look H id with
  | none => simp [hl] at hp
  | some blk =>
   cases blk with
   | o x => simp [hl] at hp
   | b bs =>
    simp only [hl] at hp ⊢
    obtain ⟨rfl,hle⟩ := hp
    have := zff hh h hl rfl hle
    have e : ((bs.drop off).take len).length = len := by simp; omega
    rw [e]
    simpa [Blk.flat,List.map_take,List.map_drop] using this
   | i ns => simp [hl] at hp
   | g s xs => simp [hl] at hp
 | _ => simp [zfb] at hp
theorem zwk {w : World} {loc : Loc} {H : Heap} (hh : HR w loc H) {x : AV} {v : Value} (hx : R w loc x v) (hp : (zhl H x).1) : Seen w loc v (zhl H x).2.length 1 ((zhl H x).2.map fun b => .w (word b)) := by
 cases hx with
 | si bs full a cap hd hc =>
  simp only [zhl]
  exact zew hd hc (zgt bs) (by simp) Nat.one_pos
 | sg s xs full a cap cs hd hs hc hl hx h =>
  cases xs with
  | nil =>
   simp only [zhl]
   exact ⟨⟨a,cap,rfl,hd.le,hd.top,.inl rfl⟩,rfl⟩
  | cons => simp [zhl] at hp
 | ms id s off len v h =>
  simp only [zhl] at hp ⊢
  cases hl : look H id with
  | none => simp [hl] at hp
  | some blk =>
   cases blk with
   | o x => simp [hl] at hp
   | i ns =>
    simp only [hl] at hp ⊢
    obtain ⟨rfl,hle⟩ := hp
    have := zff hh h hl rfl hle
    have e : ((ns.drop off).take len).length = len := by simp; omega
    rw [e]
    simpa [Blk.flat,List.map_take,List.map_drop] using this
   | b bs => simp [hl] at hp
   | g s xs => simp [hl] at hp
 | _ => simp [zhl] at hp
theorem zwl {s : Nat} (hs0 : 0 < s) {w : World} {loc : Loc} {H : Heap} (hh : HR w loc H) {x : AV} {v : Value} (hx : R w loc x v) (hp : (zfa s H x).1) :
  Seen w loc v (zfa s H x).2.length s ((zfa s H x).2.flatMap AV.leaves) ∧ ∀ y ∈ (zfa s H x).2,y.leaves.length = s := by
 cases hx with
 | sg s' xs full a cap cs hd hs hc hl hx h =>
  simp only [zfa] at hp ⊢
  rcases hp with rfl | rfl
  ·exact ⟨⟨⟨a,cap,rfl,hd.le,hd.top,.inl rfl⟩,by simp⟩,by simp⟩
  ·refine ⟨zew hd hc ⟨hl,fun j hj => (hx j hj).1,h⟩ ?_ hs0,hs⟩
   rw [← hl]
   have := zbn (blk := .g s' xs) ⟨hs0,hs⟩
   simpa [Blk.flat,Blk.len,Blk.size] using this
 | ms id s' off len v h =>
  simp only [zfa] at hp ⊢
  cases hl : look H id with
  | none => simp [hl] at hp
  | some blk =>
   cases blk with
   | o x => simp [hl] at hp
   | g s'' xs =>
    simp only [hl] at hp ⊢
    obtain ⟨rfl,rfl,hle⟩ := hp
    have hf : loc.m id ≠ .free := by intro e; simp [Owns,e] at h
    obtain ⟨hok,_⟩ := hh.get hl hf
    have := zff hh h hl rfl hle
    have e : ((xs.drop off).take len).length = len := by simp; omega
    rw [e]
    refine ⟨?_,fun y hy => hok.2 y (List.mem_of_mem_drop (List.mem_of_mem_take hy))⟩
    rw [zbl _ _ (fun y hy => hok.2 y (List.mem_of_mem_drop hy)),zbt _ _ hok.2]
    exact this
   | b bs => simp [hl] at hp
   | i ns => simp [hl] at hp
 | _ => simp [zfa] at hp
theorem R.wv {w : World} {loc : Loc} {u v : Value} (h : R w loc (.w u) v) : v = u := by cases h; rfl
theorem yce (bs : List UInt8) : (bs.map fun b => (b.toNat : Int)).map (fun n => UInt8.ofNat n.toNat) = bs := by
 rw [List.map_map]
 conv => rhs; rw [← List.map_id bs]
 refine List.map_congr_left fun b _ => ?_
 simp
theorem zil {w : World} {loc : Loc} {bs : List UInt8} {cs : List Value} (h : CellsOf w loc (bs.map fun b => .w (byte b)) cs) : cs = bs.map byte := by
 refine List.ext_getElem (by have := h.len; simpa using this.symm) fun j h1 h2 => ?_
 have := h.r j (by simpa using h2) h1
 simp only [List.getElem_map] at this ⊢
 exact this.wv
theorem zji {w : World} {loc : Loc} {v : Value} {bs : List UInt8} {src dst e : TypeId} (hs : P.underlying src = some (.slice e)) (he : P.underlying e = some (.int .u8)) (hd : P.underlying dst = some .string) (h : Seen w loc v bs.length 1 (bs.map fun b => .w (byte b))) :
  (convert src dst v).run P w = .ok (.string ⟨bs.toArray⟩) w := by
 obtain ⟨a,cap,rfl,_,_,h0 | ⟨b,o,cs,rfl,_,hcl,hc,hco⟩⟩ := h.seen
 ·have : bs = [] := List.length_eq_zero_iff.1 h0
  subst this
  rw [run_convert_bytes_string w src dst e a _ cap hs he hd]
  cases a with
  | none =>
   simp [Conv.bytesToString,ByteArray.empty,ByteArray.emptyWithCapacity]
   rfl
  | some a =>
   rw [run_bytesToString w a _ cap [] (by simp [loadCells,loadCellsFrom])]
   simp [ByteArray.empty,ByteArray.emptyWithCapacity]
   rfl
 ·have hcs := zil hco
  subst hcs
  rw [run_convert_bytes_arg w src e hs he b o bs.length cap (bs.map fun b => (b.toNat : Int)) (by simp) (fun i hi => ?_) dst hd]
  ·unfold strOfNums; rw [yce]
  ·rw [hc i (by simpa using hi)]
   simp [byte,List.getD,List.getElem?_eq_getElem hi]
end ops
end Ax
end Go.Proofs.Ytdfgfdcfcdgadaa
