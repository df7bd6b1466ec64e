/- That what is said of abstract values holds of the model: structs, arrays and slices written out. -/
import Derived.Test.YtgkkgbomhfdbkaaAxG
import Derived.Laws.Tables
import Derived.Great.BuildSlice
namespace Go.Proofs.Ytgkkgbomhfdbkaa
namespace Ax
section ops
variable {P : Program}

/-- Parts, and their values. -/
inductive PR (w : World) (loc : Loc) : List (Nat × AV) → List (Nat × Value) → Prop where
  | nil : PR w loc [] []
  | cons {i : Nat} {x : AV} {v : Value} {ps : List (Nat × AV)} {pv : List (Nat × Value)} (h : R w loc x v) (r : PR w loc ps pv) : PR w loc ((i, x) :: ps) ((i, v) :: pv)

theorem evps_PR {w : World} {loc : Loc} {sl : List AV} {a : Act} (hs : ∀ t, R w loc (slot sl t) (a.tmps.getD t undef)) : ∀ (ps : List (Nat × Operand)), PR w loc (evps sl ps) (ps.map fun p => (p.1, a.eval p.2))
  | [] => .nil
  | _ :: r => .cons (ev_R hs _) (evps_PR hs r)

theorem places_of {T : Types} (hT : TOk P T) : ∀ (gs : List Field), allTy T (gs.map fun f => (f.offset, f.type)) →
    ∃ places, gs.mapM (fun f => (P.info? f.type).map fun i => (f.offset, i.size)) = some places ∧ ∀ (i : Nat) (off : Nat) (ty : TypeId) (ti : TyI), (gs.map fun f => (f.offset, f.type))[i]? = some (off, ty) → T ty = some ti → places[i]? = some (off, ti.size)
  | [], _ => ⟨[], rfl, fun i off ty ti h _ => by simp at h⟩
  | g :: r, h => by
    simp only [List.map_cons, allTy] at h
    cases ht : T g.type with
    | none => simp [ht] at h
    | some ti =>
      simp only [ht] at h
      obtain ⟨pl, h1, h2⟩ := places_of hT r h
      obtain ⟨inf, z, h3, h4, _⟩ := (hT _ _ ht).info
      refine ⟨(g.offset, inf.size) :: pl, by simp [List.mapM_cons, h3, h1], fun i off ty ti' hi hti => ?_⟩
      cases i with
      | zero =>
        simp only [List.map_cons, List.getElem?_cons_zero, Option.some.injEq, Prod.mk.injEq] at hi
        obtain ⟨rfl, rfl⟩ := hi
        rw [ht] at hti; injection hti with hti; subst hti
        simp [h4]
      | succ i => exact h2 i off ty ti' (by simpa using hi) hti

theorem fillS_sound {T : Types} {fs : List (Nat × TypeId)} {places : List (Nat × Nat)} (hpl : ∀ (i : Nat) (off : Nat) (ty : TypeId) (ti : TyI), fs[i]? = some (off, ty) → T ty = some ti → places[i]? = some (off, ti.size)) {w : World} {loc : Loc} :
    ∀ (ps : List (Nat × AV)) (pv : List (Nat × Value)) (ls : List AV) (cs : Array Value), PR w loc ps pv → CellsOf w loc ls cs.toList → (fillS T fs ps ls).1 →
      ∃ cs', Instr.fill (places.toArray[·]?) cs pv = some cs' ∧ CellsOf w loc (fillS T fs ps ls).2 cs'.toList
  | _, _, ls, cs, .nil, hc, _ => ⟨cs, rfl, hc⟩
  | _, _, ls, cs, .cons (i := i) (x := x) (v := v) (ps := ps) (pv := pv) hx hr, hc, hp => by
    simp only [fillS] at hp ⊢
    cases hfi : fs[i]? with
    | none => simp [hfi] at hp
    | some q =>
      obtain ⟨off, ty⟩ := q
      simp only [hfi] at hp ⊢
      cases ht : T ty with
      | none => simp [ht] at hp
      | some ti =>
        simp only [ht] at hp ⊢
        obtain ⟨h1, h2, h3, h4⟩ := hp
        have hv := okv_cells hx h2
        obtain ⟨l1, l2⟩ := lay_cells hc hv (off := off) (by omega)
        obtain ⟨cs', e1, e2⟩ := fillS_sound hpl ps pv _ _ hr l2 h4
        have hvs : v.cells.size = ti.size := by rw [← h1, hv.len]; simp
        have hcl := hc.len
        refine ⟨cs', ?_, e2⟩
        rw [fill_cons (off := off) (size := ti.size) (by simpa using hpl i off ty ti hfi ht) hvs (by simp at hcl; omega)]
        exact e1

theorem fillA_sound {s : Nat} {w : World} {loc : Loc} :
    ∀ (ps : List (Nat × AV)) (pv : List (Nat × Value)) (ls : List AV) (cs : Array Value), PR w loc ps pv → CellsOf w loc ls cs.toList → (fillA s ps ls).1 →
      ∃ cs', Instr.fill (fun i => some (i * s, s)) cs pv = some cs' ∧ CellsOf w loc (fillA s ps ls).2 cs'.toList
  | _, _, ls, cs, .nil, hc, _ => ⟨cs, rfl, hc⟩
  | _, _, ls, cs, .cons (i := i) (x := x) (v := v) (ps := ps) (pv := pv) hx hr, hc, hp => by
    simp only [fillA] at hp ⊢
    obtain ⟨h1, h2, h3, h4⟩ := hp
    have hv := okv_cells hx h2
    obtain ⟨l1, l2⟩ := lay_cells hc hv (off := i * s) (by omega)
    obtain ⟨cs', e1, e2⟩ := fillA_sound ps pv _ _ hr l2 h4
    have hvs : v.cells.size = s := by rw [← h1, hv.len]; simp
    have hcl := hc.len
    refine ⟨cs', ?_, e2⟩
    rw [fill_cons (off := i * s) (size := s) rfl hvs (by simp at hcl; omega)]
    exact e1

theorem build_sound {T : Types} (hT : TOk P T) {w : World} {loc : Loc} {H : Heap} {t : TypeId} {ps : List (Nat × AV)} {pv : Array (Nat × Value)} (hps : PR w loc ps pv.toList) (hp : (aBuild T t ps H).p) :
    ∃ v, (Instr.build t pv).run P w = .ok v w ∧ R w loc (aBuild T t ps H).x v ∧ (aBuild T t ps H).H = H := by
  unfold aBuild at hp ⊢
  cases ht : T t with
  | none => simp [ht, bad] at hp
  | some ti =>
    have hty := hT t ti ht
    obtain ⟨inf, z, i1, i2, i3, i4, i5, i6, i7, i8⟩ := hty.info
    have hz := zsOk_sound i6
    have hzc : CellsOf w loc ti.zero z.cells.toList := ⟨hz.1, fun j hj => (zOk_sound (hz.2 j hj (by rw [← hz.1]; exact hj))).1, fun j h1 h2 => (zOk_sound (hz.2 j h1 h2)).2.2.2 w loc⟩
    have hd := hty.d
    simp only [ht] at hp ⊢
    have fin : ∀ {ls : List AV} {cs : Array Value}, CellsOf w loc ls cs.toList → R w loc (.agg ls) (.agg cs) := by
      intro ls cs hc
      have := R.agg (w := w) (loc := loc) ls cs.toList hc.len hc.leaf hc.r
      simpa using this
    cases hdd : ti.d with
    | struct fs =>
      simp only [hdd] at hp ⊢
      rw [hdd] at hd
      obtain ⟨gs, g1, rfl⟩ := hd
      obtain ⟨places, p1, p2⟩ := places_of hT gs.toList hp.1
      obtain ⟨cs', f1, f2⟩ := fillS_sound p2 ps pv.toList ti.zero z.cells hps hzc hp.2
      exact ⟨.agg cs', run_build w t pv cs' (by simp only [Program.built, i1, g1, i4, p1]; exact f1), fin f2, by simp⟩
    | arr n e =>
      simp only [hdd] at hp ⊢
      rw [hdd] at hd
      cases hte : T e with
      | none => simp [hte, bad] at hp
      | some te =>
        simp only [hte] at hp ⊢
        obtain ⟨inf2, z2, j1, j2, _⟩ := (hT e te hte).info
        obtain ⟨cs', f1, f2⟩ := fillA_sound ps pv.toList ti.zero z.cells hps hzc hp
        rw [← j2] at f1
        have hd' : P.underlying t = some (.array n e) := hd
        exact ⟨.agg cs', run_build w t pv cs' (by simp [Program.built, i1, hd', i4, j1, f1]), fin f2, by simp⟩
    | _ => simp [hdd, bad] at hp

theorem flatMap_take {s : Nat} : ∀ (xs : List AV) (i : Nat), (∀ x ∈ xs, x.leaves.length = s) → (xs.take i).flatMap AV.leaves = (xs.flatMap AV.leaves).take (i * s)
  | [], i, _ => by simp
  | x :: r, 0, _ => by simp
  | x :: r, i + 1, h => by
    have hx : x.leaves.length = s := h x (by simp)
    simp only [List.take_succ_cons, List.flatMap_cons]
    rw [flatMap_take r i (fun y hy => h y (by simp [hy])), List.take_append, Nat.succ_mul, hx]
    congr 1
    · rw [List.take_of_length_le (by omega)]
    · congr 1; omega

theorem flatMap_drop {s : Nat} : ∀ (xs : List AV) (i : Nat), (∀ x ∈ xs, x.leaves.length = s) → (xs.drop i).flatMap AV.leaves = (xs.flatMap AV.leaves).drop (i * s)
  | [], i, _ => by simp
  | x :: r, 0, _ => by simp
  | x :: r, i + 1, h => by
    have hx : x.leaves.length = s := h x (by simp)
    simp only [List.drop_succ_cons, List.flatMap_cons]
    rw [flatMap_drop r i (fun y hy => h y (by simp [hy])), List.drop_append, Nat.succ_mul, hx]
    rw [List.drop_of_length_le (l := x.leaves) (by omega), List.nil_append]
    congr 1; omega

theorem flat_whole {s : Nat} {xs : List AV} (hok : Blk.ok (.g s xs)) {i : Nat} {x : AV} (hi : i < xs.length) (hx : x.leaves.length = s) :
    Blk.ok (.g s (setSlot xs i x)) ∧ Blk.flat (.g s (setSlot xs i x)) = splice (Blk.flat (.g s xs)) (i * s) x.leaves := by
  obtain ⟨h0, hs⟩ := hok
  rw [setSlot_set]
  refine ⟨⟨h0, fun z hz => ?_⟩, ?_⟩
  · rcases List.mem_or_eq_of_mem_set hz with h | h
    · exact hs z h
    · rw [h]; exact hx
  · simp only [Blk.flat, splice, hx]
    rw [List.set_eq_take_append_cons_drop, if_pos hi, List.flatMap_append, List.flatMap_cons, flatMap_take xs i hs, flatMap_drop xs (i + 1) hs, Nat.succ_mul]

theorem fillB_sound {w : World} {loc : Loc} :
    ∀ (ps : List (Nat × AV)) (pv : List (Nat × Value)) (bs : List UInt8) (cs : Array Value), PR w loc ps pv → CellsOf w loc (Blk.flat (.b bs)) cs.toList → (fillB ps bs).1 →
      ∃ cs', Instr.fill (fun i => some (i * 1, 1)) cs pv = some cs' ∧ CellsOf w loc (Blk.flat (.b (fillB ps bs).2)) cs'.toList
  | _, _, bs, cs, .nil, hc, _ => ⟨cs, rfl, hc⟩
  | _, _, bs, cs, .cons (i := i) (x := x) (v := v) (ps := ps) (pv := pv) hx hr, hc, hp => by
    simp only [fillB] at hp ⊢
    split at hp
    · rename_i m
      obtain ⟨h1, h2, h3, h4⟩ := hp
      have hv := okv_cells hx rfl
      obtain ⟨_, f2, f3⟩ := flat_eq (blk := .b bs) trivial (i := i) (f := 0) (x := .w (.int .u8 m)) h1 ⟨rfl, h2, h3⟩
      obtain ⟨l1, l2⟩ := lay_cells hc hv (off := i * 1) (by simpa [Blk.size] using f2)
      have f3' : Blk.flat (.b (bs.set i (UInt8.ofNat m.toNat))) = splice (Blk.flat (.b bs)) (i * 1) (AV.leaves (.w (.int .u8 m))) := by simpa [setB, Blk.size] using f3
      rw [← f3'] at l2
      obtain ⟨cs', e1, e2⟩ := fillB_sound ps pv _ _ hr l2 h4
      have hvl := hv.len
      have hcl := hc.len
      refine ⟨cs', ?_, e2⟩
      rw [fill_cons (off := i * 1) (size := 1) rfl (by simpa [AV.leaves] using hvl.symm) (by simp [Blk.flat] at hcl; omega)]
      exact e1
    · exact hp.elim

theorem fillI_sound {w : World} {loc : Loc} :
    ∀ (ps : List (Nat × AV)) (pv : List (Nat × Value)) (ns : List Int) (cs : Array Value), PR w loc ps pv → CellsOf w loc (Blk.flat (.i ns)) cs.toList → (fillI ps ns).1 →
      ∃ cs', Instr.fill (fun i => some (i * 1, 1)) cs pv = some cs' ∧ CellsOf w loc (Blk.flat (.i (fillI ps ns).2)) cs'.toList
  | _, _, ns, cs, .nil, hc, _ => ⟨cs, rfl, hc⟩
  | _, _, ns, cs, .cons (i := i) (x := x) (v := v) (ps := ps) (pv := pv) hx hr, hc, hp => by
    simp only [fillI] at hp ⊢
    split at hp
    · rename_i m
      obtain ⟨h1, h4⟩ := hp
      have hv := okv_cells hx rfl
      obtain ⟨_, f2, f3⟩ := flat_eq (blk := .i ns) trivial (i := i) (f := 0) (x := .w (.int .i64 m)) h1 rfl
      obtain ⟨l1, l2⟩ := lay_cells hc hv (off := i * 1) (by simpa [Blk.size] using f2)
      have f3' : Blk.flat (.i (ns.set i m)) = splice (Blk.flat (.i ns)) (i * 1) (AV.leaves (.w (.int .i64 m))) := by simpa [setB, Blk.size] using f3
      rw [← f3'] at l2
      obtain ⟨cs', e1, e2⟩ := fillI_sound ps pv _ _ hr l2 h4
      have hvl := hv.len
      have hcl := hc.len
      refine ⟨cs', ?_, e2⟩
      rw [fill_cons (off := i * 1) (size := 1) rfl (by simpa [AV.leaves] using hvl.symm) (by simp [Blk.flat] at hcl; omega)]
      exact e1
    · exact hp.elim

theorem fillG_sound {s : Nat} {w : World} {loc : Loc} :
    ∀ (ps : List (Nat × AV)) (pv : List (Nat × Value)) (xs : List AV) (cs : Array Value), PR w loc ps pv → Blk.ok (.g s xs) → CellsOf w loc (Blk.flat (.g s xs)) cs.toList → (fillG s ps xs).1 →
      ∃ cs', Instr.fill (fun i => some (i * s, s)) cs pv = some cs' ∧ CellsOf w loc (Blk.flat (.g s (fillG s ps xs).2)) cs'.toList ∧ Blk.ok (.g s (fillG s ps xs).2)
  | _, _, xs, cs, .nil, hok, hc, _ => ⟨cs, rfl, hc, hok⟩
  | _, _, xs, cs, .cons (i := i) (x := x) (v := v) (ps := ps) (pv := pv) hx hr, hok, hc, hp => by
    simp only [fillG] at hp ⊢
    obtain ⟨h1, h2, h3, h4⟩ := hp
    have hv := okv_cells hx h3
    obtain ⟨f1, f3⟩ := flat_whole hok h1 h2
    have hfl := flat_len hok
    have hle : i * s + s ≤ (Blk.flat (.g s xs)).length := by
      have := Nat.mul_le_mul_right s (show i + 1 ≤ xs.length from h1)
      rw [Nat.succ_mul] at this; rw [hfl]; exact this
    obtain ⟨l1, l2⟩ := lay_cells hc hv (off := i * s) (by omega)
    rw [← f3] at l2
    obtain ⟨cs', e1, e2⟩ := fillG_sound ps pv _ _ hr f1 l2 h4
    have hvs : v.cells.size = s := by rw [← h2, hv.len]; simp
    have hcl := hc.len
    refine ⟨cs', ?_, e2⟩
    rw [fill_cons (off := i * s) (size := s) rfl hvs (by simp at hcl; omega)]
    exact e1

theorem fillB_len : ∀ (ps : List (Nat × AV)) (bs : List UInt8), (fillB ps bs).1 → (fillB ps bs).2.length = bs.length
  | [], bs, _ => rfl
  | (i, x) :: r, bs, h => by
    simp only [fillB] at h ⊢
    split at h
    · rw [fillB_len r _ h.2.2.2]; simp
    · exact h.elim

theorem fillI_len : ∀ (ps : List (Nat × AV)) (ns : List Int), (fillI ps ns).1 → (fillI ps ns).2.length = ns.length
  | [], ns, _ => rfl
  | (i, x) :: r, ns, h => by
    simp only [fillI] at h ⊢
    split at h
    · rw [fillI_len r _ h.2]; simp
    · exact h.elim

theorem fillG_len {s : Nat} : ∀ (ps : List (Nat × AV)) (xs : List AV), (fillG s ps xs).1 → (fillG s ps xs).2.length = xs.length
  | [], xs, _ => rfl
  | (i, x) :: r, xs, h => by
    simp only [fillG] at h ⊢
    rw [fillG_len r _ h.2.2.2, setSlot_set]; simp

/-- A new row of zeros. -/
theorem zeros_cells {t : TypeId} {i : TyI} {z : Value} {w : World} {loc : Loc} (hz : CellsOf w loc i.zero z.cells.toList) (hl : z.cells.toList.length = i.size) (h0 : 0 < i.size) (hy : TyR P t i) (n : Nat) :
    Blk.ok (.g i.size (List.replicate n (asv i i.zero))) ∧ CellsOf w loc (Blk.flat (.g i.size (List.replicate n (asv i i.zero)))) ((Array.range (n * i.size)).map (z.cells[· % z.cells.size]!)).toList := by
  obtain ⟨k1, k2, k3⟩ := asv_okv hy hz hl
  have hzl := hz.len
  have hok : Blk.ok (.g i.size (List.replicate n (asv i i.zero))) := ⟨h0, fun x hx => by rw [List.eq_of_mem_replicate hx]; exact k2⟩
  have hfl := flat_len hok
  simp only [Blk.len, List.length_replicate, Blk.size] at hfl
  have hzs : z.cells.size = i.size := by simpa using hl
  have key : ∀ (j : Nat) (hj : j < (Blk.flat (.g i.size (List.replicate n (asv i i.zero)))).length), (Blk.flat (.g i.size (List.replicate n (asv i i.zero))))[j] = i.zero[j % i.size]'(by rw [hzl, hl]; exact Nat.mod_lt _ h0) := by
    intro j hj
    have hq : j / i.size < n := by rw [Nat.div_lt_iff_lt_mul h0]; omega
    have hr : j % i.size < i.size := Nat.mod_lt _ h0
    have hjq : j = j / i.size * i.size + j % i.size := by rw [Nat.mul_comm]; exact (Nat.div_add_mod j i.size).symm
    obtain ⟨a1, a2, a3⟩ := flat_elem hok (i := j / i.size) (by simpa [Blk.len] using hq)
    have := a3 (j % i.size) (by rw [a1]; exact hr) (by simp only [Blk.size]; omega)
    have e : (Blk.flat (.g i.size (List.replicate n (asv i i.zero))))[j] = (elemLeaves (.g i.size (List.replicate n (asv i i.zero))) (j / i.size))[j % i.size]'(by rw [a1]; exact hr) := by
      rw [← this]; congr 1
    rw [e]
    have e2 : elemLeaves (.g i.size (List.replicate n (asv i i.zero))) (j / i.size) = i.zero := by
      simp only [elemLeaves]
      rw [slot_lt (by simpa using hq)]
      simp [k3]
    simp [e2]
  refine ⟨hok, by rw [hfl]; simp, fun j hj => ?_, fun j h1 h2 => ?_⟩
  · rw [key j hj]; exact hz.leaf _ _
  · rw [key j h1]
    have hm : j % i.size < z.cells.size := by rw [hzs]; exact Nat.mod_lt _ h0
    have := hz.r (j % i.size) (by rw [hzl, hl]; exact Nat.mod_lt _ h0) (by simpa using hm)
    simp only [Array.toList_map, List.getElem_map, Array.getElem_toList, Array.getElem_range]
    rw [hzs, getElem!_pos _ _ (by rw [hzs]; exact Nat.mod_lt _ h0)]
    exact this

end ops
end Ax
end Go.Proofs.Ytgkkgbomhfdbkaa
