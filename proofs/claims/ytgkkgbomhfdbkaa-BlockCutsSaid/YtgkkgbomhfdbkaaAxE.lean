/- That what is said of abstract values holds of the model: loads and stores; operands. -/
import Derived.Test.YtgkkgbomhfdbkaaAxD
namespace Go.Proofs.Ytgkkgbomhfdbkaa
namespace Ax

theorem cvl_R (w : World) (loc : Loc) (v : Value) : R w loc (cvl v) v := by
  unfold cvl
  split
  · rename_i s
    have : s = ⟨s.data.toList.toArray⟩ := by cases s; simp
    conv => arg 4; rw [this]
    exact .str _
  · exact .sg 1 [] true none 0 [] ⟨Nat.le_refl _, Nat.zero_le _, fun _ => rfl⟩ (by simp) ⟨.inl rfl⟩ rfl (by simp) (by simp)
  · exact .w _ rfl
  · exact .w _ rfl
  · exact .w _ rfl
  · exact .w _ rfl
  · exact .w _ rfl
  · exact .w _ rfl
  · exact .junk _

theorem cv_R (w : World) (loc : Loc) (v : Value) : R w loc (cv v) v := by
  unfold cv
  split
  · rename_i cs
    split
    · rename_i h
      have hx : ∀ (j : Nat) (h : j < (cs.toList.map cvl).length), (cs.toList.map cvl)[j].leaf = true := fun j hj => List.all_eq_true.1 h _ (List.getElem_mem hj)
      have := R.agg (w := w) (loc := loc) (cs.toList.map cvl) cs.toList (by simp) hx (fun j h1 h2 => by
        have h3 : (cs.toList.map cvl)[j] = cvl cs.toList[j] := by simp
        rw [h3]; exact cvl_R w loc _)
      simpa using this
    · exact .junk _
  · exact cvl_R w loc v

theorem slot_getD (xs : List AV) (n : Nat) : slot xs n = xs.getD n .junk := by
  induction xs generalizing n with
  | nil => simp [slot]
  | cons x xs ih => cases n with
    | zero => simp [slot]
    | succ n => simp only [slot, ih]; simp

theorem slot_lt {xs : List AV} {n : Nat} (h : n < xs.length) : slot xs n = xs[n] := by
  rw [slot_getD]; simp [List.getD, List.getElem?_eq_getElem h]

theorem setSlot_set (xs : List AV) (n : Nat) (y : AV) : setSlot xs n y = xs.set n y := by
  induction xs generalizing n with
  | nil => simp [setSlot]
  | cons x xs ih => cases n with
    | zero => simp [setSlot]
    | succ n => simp only [setSlot, ih]; simp

theorem ev_R {w : World} {loc : Loc} {sl : List AV} {a : Act} (hs : ∀ t, R w loc (slot sl t) (a.tmps.getD t undef)) (o : Operand) : R w loc (ev sl o) (a.eval o) := by
  cases o with
  | tmp t => exact hs t
  | const v => exact cv_R w loc v
  | global g => exact .junk _
  | func f => exact .fn f [] [] rfl (by simp)

/-- A leaf's value fills one cell. -/
theorem leaf_one {w : World} {loc : Loc} {x : AV} {v : Value} (h : R w loc x v) (hl : x.leaf = true) : one v = true := by
  cases h with
  | w v h => exact h
  | str bs => rfl
  | agg => simp [AV.leaf] at hl
  | tup => simp [AV.leaf] at hl
  | sb => rfl
  | si => rfl
  | sg => rfl
  | cp => rfl
  | ms id s off len v h => exact h.one
  | rf id s i f v h => exact h.one
  | fn => rfl
  | junk => simp [AV.leaf] at hl

theorem one_cells {v : Value} (h : one v = true) : v.cells = #[v] := by cases v <;> first | rfl | simp [one] at h

structure CellsOf (w : World) (loc : Loc) (ls : List AV) (cs : List Value) : Prop where
  len : ls.length = cs.length
  leaf : ∀ (j : Nat) (h : j < ls.length), ls[j].leaf = true
  r : ∀ (j : Nat) (h : j < ls.length) (h' : j < cs.length), R w loc ls[j] cs[j]

theorem CellsOf.one {w : World} {loc : Loc} {ls : List AV} {cs : List Value} (h : CellsOf w loc ls cs) : ∀ c ∈ cs, Ax.one c = true := by
  intro c hc
  obtain ⟨j, hj, rfl⟩ := List.getElem_of_mem hc
  exact leaf_one (h.r j (by rw [h.len]; exact hj) hj) (h.leaf j (by rw [h.len]; exact hj))

/-- The cells that a value fills. -/
theorem okv_cells {w : World} {loc : Loc} {x : AV} {v : Value} (h : R w loc x v) (hk : x.okv = true) : CellsOf w loc x.leaves v.cells.toList := by
  have one_case : ∀ {x : AV} {v : Value}, R w loc x v → x.leaf = true → x.leaves = [x] → CellsOf w loc x.leaves v.cells.toList := by
    intro x v h hl he
    rw [he, one_cells (leaf_one h hl)]
    refine ⟨rfl, fun j hj => ?_, fun j hj hj' => ?_⟩
    · obtain rfl : j = 0 := by simpa using hj
      exact hl
    · obtain rfl : j = 0 := by simpa using hj
      exact h
  cases h with
  | agg xs cs hl hx h => exact ⟨by simpa [AV.leaves, Value.cells] using hl, fun j hj => hx j hj, fun j h1 h2 => h j h1 (by simpa [Value.cells] using h2)⟩
  | tup => simp [AV.okv, AV.leaf] at hk
  | junk => simp [AV.okv, AV.leaf] at hk
  | w v h => exact one_case (.w v h) hk rfl
  | str bs => exact one_case (.str bs) hk rfl
  | sb bs full a cap hd hc => exact one_case (.sb bs full a cap hd hc) hk rfl
  | si ns full a cap hd hc => exact one_case (.si ns full a cap hd hc) hk rfl
  | sg s xs full a cap cs hd hs hc hl hx h => exact one_case (.sg s xs full a cap cs hd hs hc hl hx h) hk rfl
  | cp ls a cs hc hn hl hx h => exact one_case (.cp ls a cs hc hn hl hx h) hk rfl
  | ms id s off len v h => exact one_case (.ms id s off len v h) hk rfl
  | rf id s i f v h => exact one_case (.rf id s i f v h) hk rfl
  | fn f caps cs hl h => exact one_case (.fn f caps cs hl h) hk rfl

section mem
variable {P : Program}

theorem run_isAgg {t : TypeId} {d : TD} (h : TdR P t d) (w : World) : (isAgg t).run P w = .ok d.aggr w := by
  cases d with
  | other =>
    obtain ⟨d, hd, h1, h2⟩ := h
    cases d <;> first | exact (h1 _ rfl).elim | exact (h2 _ _ rfl).elim | simp [isAgg, run_underlying hd, TD.aggr]
  | ptr => obtain ⟨e, h⟩ := h; simp [isAgg, run_underlying h, TD.aggr]
  | struct fs => obtain ⟨e, h, _⟩ := h; simp [isAgg, run_underlying h, TD.aggr]
  | func => obtain ⟨a, b, c, h⟩ := h; simp [isAgg, run_underlying h, TD.aggr]
  | int k => simp [isAgg, run_underlying (show P.underlying t = _ from h), TD.aggr]
  | bool => simp [isAgg, run_underlying (show P.underlying t = _ from h), TD.aggr]
  | str => simp [isAgg, run_underlying (show P.underlying t = _ from h), TD.aggr]
  | slice e => simp [isAgg, run_underlying (show P.underlying t = _ from h), TD.aggr]
  | arr n e => simp [isAgg, run_underlying (show P.underlying t = _ from h), TD.aggr]

theorem run_typeInfo' {t : TypeId} {inf : TypeInfo} (h : P.info? t = some inf) (w : World) : (typeInfo t).run P w = .ok inf w := by
  simp only [typeInfo, program, Bind.bind, Sem.bind, Sem.run]
  rw [h]; rfl

theorem run_sizeOf' {t : TypeId} {i : TyI} (h : TyR P t i) (w : World) : (sizeOf t).run P w = .ok i.size w := by
  obtain ⟨inf, z, h1, h2, _⟩ := h.info
  simp [sizeOf, run_typeInfo' h1, h2]

theorem run_zeroValue' {t : TypeId} {i : TyI} (h : TyR P t i) (w : World) : ∃ z, (zeroValue t).run P w = .ok z w ∧ z.cells.toList.length = i.size ∧ (∀ w loc, CellsOf w loc i.zero z.cells.toList ∧ R w loc (asv i i.zero) z) := by
  obtain ⟨inf, z, h1, h2, h3, h4, h5, h6, h7, h8⟩ := h.info
  refine ⟨z, by simp [zeroValue, run_typeInfo' h1, h4], h5, fun w loc => ?_⟩
  have hz := zsOk_sound h6
  have hc : CellsOf w loc i.zero z.cells.toList := ⟨hz.1, fun j hj => (zOk_sound (hz.2 j hj (by rw [← hz.1]; exact hj))).1, fun j h1 h2 => (zOk_sound (hz.2 j h1 h2)).2.2.2 w loc⟩
  refine ⟨hc, ?_⟩
  unfold asv
  cases ha : i.d.aggr with
  | true =>
    obtain ⟨cs, rfl⟩ := h7 ha
    have := R.agg (w := w) (loc := loc) i.zero cs.toList hc.len hc.leaf hc.r
    simpa using this
  | false =>
    obtain ⟨h9, h10, h11⟩ := h8 ha
    have hl : 0 < i.zero.length := by rw [hc.len, h5, h11]; exact Nat.one_pos
    have := hc.r 0 hl (by rw [h10]; exact Nat.one_pos)
    simp only [cond_false]
    rw [slot_lt hl]
    simpa [h10] using this

/-- A load of what lies in cells that are known. -/
theorem run_loadVar' {t : TypeId} {i : TyI} (h : TyR P t i) {w : World} {b o : Nat} {cs : List Value} (hc : ∀ (j : Nat) (hj : j < cs.length), w.cell? ⟨b, o + j, none⟩ = some cs[j]) (hn : cs.length = i.size) :
    (loadVar t ⟨b, o, none⟩).run P w = .ok (if i.d.aggr = true then .agg cs.toArray else cs.getD 0 undef) w := by
  have hadd : ∀ j v, cs[j]? = some v → w.cell? (Addr.add ⟨b, o, none⟩ j) = some v := by
    intro j v hv
    obtain ⟨hj, rfl⟩ := List.getElem?_eq_some_iff.1 hv
    rw [← hc j hj]
    by_cases h0 : j = 0
    · subst h0; simp [Addr.add]
    · simp [Addr.add, h0]
  cases ha : i.d.aggr with
  | true =>
    have h1 := run_isAgg h.d w
    have h2 := run_sizeOf' h w
    have h3 := run_loadCells_list (P := P) w ⟨b, o, none⟩ cs hadd
    rw [hn] at h3
    rw [ha] at h1
    simp [loadVar, h1, h2, h3]
  | false =>
    have h1 := run_isAgg h.d w
    rw [ha] at h1
    have hs : i.size = 1 := by obtain ⟨_, _, _, _, _, _, _, _, _, h8⟩ := h.info; exact (h8 ha).2.2
    have h0 : 0 < cs.length := by omega
    have h2 := hc 0 h0
    simp only [Nat.add_zero] at h2
    have h3 : cs.getD 0 undef = cs[0] := by simp [List.getD, List.getElem?_eq_getElem h0]
    rw [h3]
    simp [loadVar, h1, load, Sem.run, h2]

/-- The same, said of abstract values: a part of the cells is loaded. -/
theorem sub_load {t : TypeId} {i : TyI} (h : TyR P t i) {w : World} {loc : Loc} {b o f : Nat} {ls : List AV} {cs : List Value} {H : Heap} (hc : ∀ (j : Nat) (hj : j < cs.length), w.cell? ⟨b, o + j, none⟩ = some cs[j])
    (hl : CellsOf w loc ls cs) (hp : (subv i ls f H).p) : ∃ v, (loadVar t ⟨b, o + f, none⟩).run P w = .ok v w ∧ R w loc (subv i ls f H).x v ∧ (subv i ls f H).H = H := by
  unfold subv at hp ⊢
  cases ha : i.d.aggr with
  | true =>
    simp only [ha, cond_true] at hp ⊢
    have hlen := hl.len
    have hcl : ((cs.drop f).take i.size).length = i.size := by simp; omega
    refine ⟨_, run_loadVar' h (b := b) (o := o + f) (cs := (cs.drop f).take i.size) (fun j hj => ?_) hcl, ?_, by simp⟩
    · have hj' : j < i.size := by omega
      rw [Nat.add_assoc, hc (f + j) (by omega)]; simp
    · rw [ha, if_pos rfl]
      refine .agg _ _ (by simp; omega) (fun j hj => ?_) (fun j h1 h2 => ?_)
      · have := hl.leaf (f + j) (by simp at hj; omega)
        simpa using this
      · have := hl.r (f + j) (by simp at h1; omega) (by simp at h2; omega)
        simpa using this
  | false =>
    simp only [ha, cond_false] at hp ⊢
    have hs : i.size = 1 := by obtain ⟨_, _, _, _, _, _, _, _, _, h8⟩ := h.info; exact (h8 ha).2.2
    have hf : f < cs.length := by rw [← hl.len]; exact hp
    refine ⟨_, run_loadVar' h (b := b) (o := o + f) (cs := [cs[f]]) (fun j hj => ?_) (by simp [hs]), ?_, by simp⟩
    · obtain rfl : j = 0 := by simpa using hj
      simpa using hc f hf
    · rw [ha, if_neg (by simp), slot_lt hp]
      simpa using hl.r f hp hf

theorem flat_elem {blk : Blk} (hok : blk.ok) {i : Nat} (hi : i < blk.len) : (elemLeaves blk i).length = blk.size ∧ i * blk.size + blk.size ≤ blk.flat.length ∧ ∀ (f : Nat) (hf : f < (elemLeaves blk i).length) (hf' : i * blk.size + f < blk.flat.length), blk.flat[i * blk.size + f] = (elemLeaves blk i)[f] := by
  cases blk with
  | b bs =>
    simp only [Blk.len] at hi
    refine ⟨rfl, by simp [Blk.size, Blk.flat]; omega, fun f hf hf' => ?_⟩
    obtain rfl : f = 0 := by simpa [elemLeaves] using hf
    simp [Blk.flat, elemLeaves, Blk.size, List.getD, List.getElem?_eq_getElem hi]
  | i ns =>
    simp only [Blk.len] at hi
    refine ⟨rfl, by simp [Blk.size, Blk.flat]; omega, fun f hf hf' => ?_⟩
    obtain rfl : f = 0 := by simpa [elemLeaves] using hf
    simp [Blk.flat, elemLeaves, Blk.size, List.getD, List.getElem?_eq_getElem hi]
  | g s xs =>
    simp only [Blk.len] at hi
    obtain ⟨h0, hs⟩ := hok
    simp only [elemLeaves, slot_lt hi, Blk.size]
    have key : ∀ (xs : List AV) (i : Nat) (hi : i < xs.length), (∀ x ∈ xs, x.leaves.length = s) → i * s + s ≤ (xs.flatMap AV.leaves).length ∧ ∀ (f : Nat) (hf : f < xs[i].leaves.length) (hf' : i * s + f < (xs.flatMap AV.leaves).length), (xs.flatMap AV.leaves)[i * s + f] = xs[i].leaves[f] := by
      intro xs
      induction xs with
      | nil => intro i hi; simp at hi
      | cons x r ih =>
        intro i hi hs
        have hx : x.leaves.length = s := hs x (by simp)
        cases i with
        | zero =>
          refine ⟨by simp; omega, fun f hf hf' => ?_⟩
          simp only [Nat.zero_mul, Nat.zero_add, List.flatMap_cons, List.getElem_cons_zero] at hf hf' ⊢
          rw [List.getElem_append_left hf]
        | succ i =>
          obtain ⟨h1, h2⟩ := ih i (by simpa using hi) (fun y hy => hs y (by simp [hy]))
          have e1 : (i + 1) * s = s + i * s := by rw [Nat.succ_mul]; omega
          refine ⟨by simp only [List.flatMap_cons, List.length_append]; omega, fun f hf hf' => ?_⟩
          have hlt : i * s + f < (r.flatMap AV.leaves).length := by simp only [List.flatMap_cons, List.length_append] at hf'; omega
          have := h2 f (by simpa using hf) hlt
          simp only [List.flatMap_cons, List.getElem_cons_succ]
          rw [← this, List.getElem_append_right (by omega)]
          congr 1; omega
    obtain ⟨h1, h2⟩ := key xs i hi hs
    exact ⟨hs _ (List.getElem_mem hi), h1, h2⟩

theorem load_sound {T : Types} (hT : TOk P T) {w : World} {loc : Loc} {H : Heap} (hh : HR w loc H) {t : TypeId} {x : AV} {v : Value} (hx : R w loc x v) (hp : (aLoad T t x H).p) :
    ∃ u, (Instr.loadAt t v).run P w = .ok u w ∧ R w loc (aLoad T t x H).x u ∧ (aLoad T t x H).H = H := by
  unfold aLoad at hp ⊢
  cases ht : T t with
  | none => simp [ht, bad] at hp
  | some ti =>
    have hty := hT t ti ht
    cases hx with
    | cp ls a cs hc hn hl hle h =>
      simp only [ht] at hp ⊢
      obtain h0 | ⟨b, o, ha, hm, hb, hcc⟩ := hc.lies
      · exact (hn h0).elim
      · injection ha with ha; subst ha
        obtain ⟨u, h1, h2, h3⟩ := sub_load hty (f := 0) (H := H) hcc ⟨hl, fun j hj => (hle j hj).1, h⟩ hp
        exact ⟨u, by simpa [Instr.loadAt, Instr.sureAddr] using h1, h2, h3⟩
    | rf id s i f v h =>
      simp only [ht] at hp ⊢
      cases hl : look H id with
      | none => simp [hl, bad] at hp
      | some blk =>
        simp only [hl, Out.and] at hp ⊢
        obtain ⟨⟨rfl, hi⟩, hp⟩ := hp
        have hf : loc.m id ≠ .free := by intro e; simp [Points, e] at h
        obtain ⟨hok, hn | ⟨b, hb, hlies⟩⟩ := hh.get hl hf
        · simp [Points, hn.1] at h
        · simp only [Points, hb] at h
          subst h
          obtain ⟨cur, e, fz, hheap, _, _, hlen, hr⟩ := hlies.lies
          obtain ⟨he1, he2, he3⟩ := flat_elem hok hi
          have hcc : ∀ (j : Nat) (hj : j < ((cur.toList.drop (i * blk.size)).take blk.size).length), w.cell? ⟨b, i * blk.size + j, none⟩ = some ((cur.toList.drop (i * blk.size)).take blk.size)[j] := by
            intro j hj
            have hj2 : i * blk.size + j < cur.size := by simp at hj; omega
            simp [World.cell?, hheap, Array.getElem?_eq_getElem hj2]
          have hco : CellsOf w loc (elemLeaves blk i) ((cur.toList.drop (i * blk.size)).take blk.size) := by
            refine ⟨by simp [he1]; omega, fun j hj => ?_, fun j h1 h2 => ?_⟩
            · rw [← he3 j hj (by omega)]; exact (hr _ (by omega) (by omega)).1
            · rw [← he3 j h1 (by omega)]
              have := (hr (i * blk.size + j) (by omega) (by omega)).2
              simpa using this
          obtain ⟨u, h1, h2, h3⟩ := sub_load hty (f := f) (H := H) hcc hco hp
          exact ⟨u, by simpa [Instr.loadAt, Instr.sureAddr] using h1, h2, h3⟩
    | _ => simp [ht, bad] at hp
end mem

end Ax
end Go.Proofs.Ytgkkgbomhfdbkaa
