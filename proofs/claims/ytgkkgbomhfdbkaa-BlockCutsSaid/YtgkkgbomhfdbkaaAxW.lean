/- A function whose text, said of abstract values, ends as is wanted does what is said of it. -/
import Derived.Test.YtgkkgbomhfdbkaaAxU
namespace Go.Proofs.Ytgkkgbomhfdbkaa
namespace Ax
set_option linter.unusedSimpArgs false
set_option linter.unusedVariables false

mutual
def AV.ids : AV → List Nat
  | .agg xs => idsL xs
  | .tup xs => idsL xs
  | .fn _ cs => idsL cs
  | .ms id _ _ _ => [id]
  | .rf id _ _ _ => [id]
  | _ => []
def idsL : List AV → List Nat
  | [] => []
  | x :: xs => x.ids ++ idsL xs
end

def newIds : List Nat → List Nat → List Nat
  | acc, [] => acc
  | acc, id :: r => bif acc.contains id then newIds acc r else newIds (acc ++ [id]) r

def upTo : Nat → List Blk → List Nat
  | _, [] => []
  | k, _ :: r => k :: upTo (k + 1) r

def pinHeap : Nat → List Blk → Heap
  | _, [] => []
  | k, b :: r => put (pinHeap (k + 1) r) k b

def rvals (T : Types) (H : Heap) (sl : List AV) : List ResultVar → Prop × List AV
  | [] => (True, [])
  | .tmp t :: r => ((rvals T H sl r).1, slot sl t :: (rvals T H sl r).2)
  | .cell a t :: r => ((aLoad T t (slot sl a) H).p ∧ (rvals T H sl r).1, (aLoad T t (slot sl a) H).x :: (rvals T H sl r).2)

def rone : List AV → AV
  | [x] => x
  | l => .tup l

def EndsX (pins : List Blk) (q : Res) (x : AV) (σ : ASt) : Prop :=
  nodup (newIds (upTo 0 pins) x.ids) = true ∧ (pinsOf σ.H (newIds (upTo 0 pins) x.ids)).1 ∧ (pinsOf σ.H (newIds (upTo 0 pins) x.ids)).2 = q.bl ∧ q.x.ren (gOf (newIds (upTo 0 pins) x.ids) σ.nx) = x

def Ends (T : Types) (rs : List ResultVar) (pins : List Blk) (q : Res) : Exit → ASt → Prop
  | .normal, σ => (rvals T σ.H σ.sl rs).1 ∧ EndsX pins q (rone (rvals T σ.H σ.sl rs).2) σ
  | .ret, σ => (rvals T σ.H σ.sl rs).1 ∧ EndsX pins q (rone (rvals T σ.H σ.sl rs).2) σ
  | _, _ => False

theorem ren_leaf_eq (g : Nat → Nat) (x : AV) : (x.ren g).leaf = x.leaf := by cases x <;> rfl

/-- A value told under the names that a call gives to its caller. -/
theorem unren {w : World} {loc loc2 : Loc} {g : Nat → Nat} (hg : ∀ k, loc2.m k = loc.m (g k)) (hb : loc2.bad = loc.bad) {y : AV} {v : Value} (h : R w loc y v) : ∀ x : AV, x.ren g = y → R w loc2 x v := by
  have hM : ∀ b, Mut loc2 b → Mut loc b := by
    rintro b (h | ⟨k, h⟩)
    · exact .inl (hb ▸ h)
    · exact .inr ⟨g k, (hg k) ▸ h⟩
  have hC : ∀ {a cs}, Cells w loc a cs → Cells w loc2 a cs := fun h => h.move (fun b _ hm => hM b hm)
  induction h with
  | w v h => intro x e; cases x <;> simp only [AV.ren] at e <;> cases e; exact .w v h
  | str bs => intro x e; cases x <;> simp only [AV.ren] at e <;> cases e; exact .str bs
  | agg xs cs hl hx _ ih =>
    intro x e
    cases x <;> simp only [AV.ren] at e <;> cases e
    rename_i ys _
    obtain ⟨h1, h2⟩ := renL_get g ys
    refine .agg ys cs (by rw [← h1]; exact hl) (fun j hj => ?_) (fun j a b => ?_)
    · have := hx j (by rw [h1]; exact hj)
      rw [h2 j (by rw [h1]; exact hj) hj, ren_leaf_eq] at this
      exact this
    · exact ih j (by rw [h1]; exact a) b ys[j] (h2 j _ a).symm
  | tup xs cs hl _ ih =>
    intro x e
    cases x <;> simp only [AV.ren] at e <;> cases e
    rename_i ys _
    obtain ⟨h1, h2⟩ := renL_get g ys
    refine .tup ys cs (by rw [← h1]; exact hl) (fun j a b => ?_)
    exact ih j (by rw [h1]; exact a) b ys[j] (h2 j _ a).symm
  | sb bs full a cap hd hc => intro x e; cases x <;> simp only [AV.ren] at e <;> cases e; exact .sb bs full a cap hd (hC hc)
  | si ns full a cap hd hc => intro x e; cases x <;> simp only [AV.ren] at e <;> cases e; exact .si ns full a cap hd (hC hc)
  | sg s xs full a cap cs hd hs hc hl hx h _ =>
    intro x e; cases x <;> simp only [AV.ren] at e <;> cases e
    exact .sg s xs full a cap cs hd hs (hC hc) hl hx (fun j a b => (h j a b).move (fun b _ hm => hM b hm) (hx j a).2)
  | cp ls a cs hc hn hl hx h _ =>
    intro x e; cases x <;> simp only [AV.ren] at e <;> cases e
    exact .cp ls a cs (hC hc) hn hl hx (fun j a b => (h j a b).move (fun b _ hm => hM b hm) (hx j a).2)
  | ms id s off len v h =>
    intro x e; cases x <;> simp only [AV.ren] at e <;> cases e
    refine .ms _ s off len v ?_
    unfold Owns at h ⊢
    rw [hg]; exact h
  | rf id s i f v h =>
    intro x e; cases x <;> simp only [AV.ren] at e <;> cases e
    refine .rf _ s i f v ?_
    unfold Points at h ⊢
    rw [hg]; exact h
  | fn f caps cs hl _ ih =>
    intro x e
    cases x <;> simp only [AV.ren] at e <;> cases e
    rename_i ys _
    obtain ⟨h1, h2⟩ := renL_get g ys
    refine .fn f ys cs (by rw [← h1]; exact hl) (fun j a b => ?_)
    exact ih j (by rw [h1]; exact a) b ys[j] (h2 j _ a).symm
  | junk v =>
    intro x e; cases x <;> simp only [AV.ren] at e <;> cases e
    exact .junk v

mutual
theorem ids_live {w : World} {loc : Loc} {id : Nat} : ∀ (x : AV) (v : Value), R w loc x v → id ∈ x.ids → loc.m id ≠ .free
  | .agg xs, v, h, hi => by
    cases h with
    | agg _ cs hl hx h => exact idsL_live xs cs hl h (by simpa [AV.ids] using hi)
  | .tup xs, v, h, hi => by
    cases h with
    | tup _ cs hl h => exact idsL_live xs cs hl h (by simpa [AV.ids] using hi)
  | .fn f xs, v, h, hi => by
    cases h with
    | fn _ _ cs hl h => exact idsL_live xs cs hl h (by simpa [AV.ids] using hi)
  | .ms id' s off len, v, h, hi => by
    obtain rfl : id = id' := by simpa [AV.ids] using hi
    cases h with
    | ms _ _ _ _ _ h => intro e; simp [Owns, e] at h
  | .rf id' s i f, v, h, hi => by
    obtain rfl : id = id' := by simpa [AV.ids] using hi
    cases h with
    | rf _ _ _ _ _ h => intro e; simp [Points, e] at h
  | .w _, _, _, hi => by simp [AV.ids] at hi
  | .str _, _, _, hi => by simp [AV.ids] at hi
  | .sb _ _, _, _, hi => by simp [AV.ids] at hi
  | .si _ _, _, _, hi => by simp [AV.ids] at hi
  | .sg _ _ _, _, _, hi => by simp [AV.ids] at hi
  | .cp _, _, _, hi => by simp [AV.ids] at hi
  | .junk, _, _, hi => by simp [AV.ids] at hi
theorem idsL_live {w : World} {loc : Loc} {id : Nat} : ∀ (xs : List AV) (vs : List Value), xs.length = vs.length → (∀ (j : Nat) (h : j < xs.length) (h' : j < vs.length), R w loc xs[j] vs[j]) → id ∈ idsL xs → loc.m id ≠ .free
  | [], _, _, _, hi => by simp [idsL] at hi
  | x :: xs, [], hl, _, _ => by simp at hl
  | x :: xs, v :: vs, hl, h, hi => by
    simp only [idsL, List.mem_append] at hi
    rcases hi with hi | hi
    · exact ids_live x v (h 0 (by simp) (by simp)) hi
    · exact idsL_live xs vs (by simpa using hl) (fun j a b => h (j + 1) (by simpa using a) (by simpa using b)) hi
end

theorem newIds_mem : ∀ (l acc : List Nat), (∃ t, newIds acc l = acc ++ t) ∧ ∀ id ∈ newIds acc l, id ∈ acc ∨ id ∈ l
  | [], acc => ⟨⟨[], by simp [newIds]⟩, fun id h => .inl h⟩
  | i :: r, acc => by
    unfold newIds
    cases hc : acc.contains i with
    | true =>
      obtain ⟨⟨t, h1⟩, h2⟩ := newIds_mem r acc
      exact ⟨⟨t, h1⟩, fun id h => (h2 id h).imp_right (by simp; exact .inr)⟩
    | false =>
      obtain ⟨⟨t, h1⟩, h2⟩ := newIds_mem r (acc ++ [i])
      refine ⟨⟨i :: t, by simp [h1]⟩, fun id h => ?_⟩
      rcases h2 id h with h | h
      · rcases List.mem_append.1 h with h | h
        · exact .inl h
        · exact .inr (by simp at h; simp [h])
      · exact .inr (by simp [h])

theorem upTo_get : ∀ (l : List Blk) (k : Nat), (upTo k l).length = l.length ∧ ∀ (j : Nat) (h : j < (upTo k l).length), (upTo k l)[j] = k + j
  | [], k => ⟨rfl, fun j h => by simp [upTo] at h⟩
  | b :: r, k => by
    obtain ⟨h1, h2⟩ := upTo_get r (k + 1)
    refine ⟨by simp [upTo, h1], fun j h => ?_⟩
    cases j with
    | zero => simp [upTo]
    | succ j =>
      have := h2 j (by simpa [upTo] using h)
      simp only [upTo, List.getElem_cons_succ]
      omega

theorem pinHeap_look : ∀ (l : List Blk) (k id : Nat) (b : Blk), look (pinHeap k l) id = some b → ∃ j, ∃ h : j < l.length, id = k + j ∧ l[j] = b
  | [], k, id, b, h => by simp [pinHeap, look] at h
  | c :: r, k, id, b, h => by
    simp only [pinHeap] at h
    rw [look_put] at h
    split at h
    · rename_i e
      injection h with h
      exact ⟨0, by simp, by omega, by simpa using h⟩
    · obtain ⟨j, hj, h1, h2⟩ := pinHeap_look r (k + 1) id b h
      exact ⟨j + 1, by simpa using hj, by omega, by simpa using h2⟩

theorem rvals_R {T : Types} {H : Heap} {P : Program} (hT : TOk P T) {w : World} {loc : Loc} (hh : HR w loc H) {sl : List AV} {tmps : Array Value} (hs : ∀ t, R w loc (slot sl t) (tmps.getD t undef)) : ∀ (rs : List ResultVar), (rvals T H sl rs).1 →
    ∃ vs : List Value, (rvals T H sl rs).2.length = vs.length ∧ (∀ (j : Nat) (h : j < (rvals T H sl rs).2.length) (h' : j < vs.length), R w loc (rvals T H sl rs).2[j] vs[j]) ∧
      (rs.mapM (m := Sem) fun | .tmp t => pure (tmps.getD t undef) | .cell a t => do loadVar t (← asAddr (tmps.getD a undef))).run P w = .ok vs w
  | [], _ => ⟨[], rfl, fun j h => by simp [rvals] at h, by simp⟩
  | .tmp t :: r, h => by
    obtain ⟨vs, h1, h2, h3⟩ := rvals_R hT hh hs r h
    refine ⟨tmps.getD t undef :: vs, by simp [rvals, h1], fun j a b => ?_, ?_⟩
    · cases j with
      | zero => exact hs t
      | succ j => exact h2 j (by simpa [rvals] using a) (by simpa using b)
    · simp only [List.mapM_cons, Sem.run_bind, Sem.run_pure, Result.andThen_ok, h3]
  | .cell x t :: r, h => by
    obtain ⟨vs, h1, h2, h3⟩ := rvals_R hT hh hs r h.2
    obtain ⟨u, g1, g2, _⟩ := load_sound (P := P) hT hh (hs x) h.1
    have hptr : ∃ q, tmps.getD x undef = .pointer (some q) := by
      have hx := hs x
      have hp := h.1
      unfold aLoad at hp
      generalize tmps.getD x undef = v at hx ⊢
      generalize slot sl x = y at hx hp
      cases ht : T t with
      | none => rw [ht] at hp; exact False.elim hp
      | some ti =>
        rw [ht] at hp
        simp only at hp
        cases hx with
        | cp ls a cs _ _ _ _ _ => exact ⟨a, rfl⟩
        | rf id s i f v h =>
          simp only at hp
          cases hl : look H id with
          | none => rw [hl] at hp; exact False.elim hp
          | some blk =>
            have hb := hh id blk hl
            unfold Points at h
            unfold BlkR at hb
            split at h
            · exact h.elim
            · rename_i e; rw [e] at hb; exact hb.elim
            · exact h.elim
            · exact ⟨_, h⟩
        | _ => exact False.elim hp
    obtain ⟨q, hq⟩ := hptr
    have g3 : (loadVar t q).run P w = .ok u w := by
      rw [hq] at g1
      simpa [Instr.loadAt, Instr.sureAddr] using g1
    have g4 : (do loadVar t (← asAddr (tmps.getD x undef)) : Sem Value).run P w = .ok u w := by
      rw [hq]; simpa [asAddr] using g3
    refine ⟨u :: vs, by simp [rvals, h1], fun j a b => ?_, ?_⟩
    · cases j with
      | zero => exact g2
      | succ j => exact h2 j (by simpa [rvals] using a) (by simpa using b)
    · rw [List.mapM_cons, Sem.run_bind]
      refine (congrArg (fun r => Result.andThen r _) g4).trans ?_
      simp only [Result.andThen_ok, Sem.run_bind, h3, Sem.run_pure]

theorem results_R {T : Types} {H : Heap} {P : Program} (hT : TOk P T) {fn : Func} {w : World} {loc : Loc} (hh : HR w loc H) {sl : List AV} {tmps : Array Value} (hs : ∀ t, R w loc (slot sl t) (tmps.getD t undef)) (h : (rvals T H sl fn.results.toList).1) :
    ∃ v, (results fn tmps).run P w = .ok v w ∧ R w loc (rone (rvals T H sl fn.results.toList).2) v := by
  obtain ⟨vs, h1, h2, h3⟩ := rvals_R hT hh hs fn.results.toList h
  have key : ∀ (A : Array ResultVar), (A.toList.mapM (m := Sem) fun | .tmp t => pure (tmps.getD t undef) | .cell a t => do loadVar t (← asAddr (tmps.getD a undef))).run P w = .ok vs w →
      (A.mapM (m := Sem) fun | .tmp t => pure (tmps.getD t undef) | .cell a t => do loadVar t (← asAddr (tmps.getD a undef))).run P w = .ok vs.toArray w := by
    rintro ⟨l⟩ h
    rw [List.mapM_toArray, ← bind_pure_comp, Sem.run_bind]
    simp only at h
    rw [h]
    rfl
  have e : (results fn tmps).run P w = .ok (if h : vs.toArray.size = 1 then vs.toArray[0] else .tuple vs.toArray) w := by
    unfold results
    rw [Sem.run_bind]
    exact congrArg (fun r => Result.andThen r _) (key _ h3)
  refine ⟨_, e, ?_⟩
  generalize (rvals T H sl fn.results.toList).2 = xs at h1 h2 ⊢
  match xs, vs, h1, h2 with
  | [], [], _, _ => exact .tup [] [] rfl (by simp)
  | [x], [v], _, h2 => exact h2 0 (by simp) (by simp)
  | x :: y :: xs, v :: u :: vs, hl, h2 =>
    rw [dif_neg (by simp)]
    exact .tup _ (v :: u :: vs) hl h2

theorem nodup_inj : ∀ {l : List Nat}, l.Nodup → ∀ {i j : Nat} {hi : i < l.length} {hj : j < l.length}, l[i] = l[j] → i = j
  | [], _, i, j, hi, _, _ => by simp at hi
  | x :: l, h, i, j, hi, hj, e => by
    rw [List.nodup_cons] at h
    cases i with
    | zero => cases j with
      | zero => rfl
      | succ j => exact (h.1 (by simp at e; rw [e]; exact List.getElem_mem _)).elim
    | succ i => cases j with
      | zero => exact (h.1 (by simp at e; rw [← e]; exact List.getElem_mem _)).elim
      | succ j =>
        have := nodup_inj h.2 (i := i) (j := j) (hi := by simpa using hi) (hj := by simpa using hj) (by simpa using e)
        omega

theorem sound_gen {P : Program} {T : Types} {S : FSpecs} (hT : TOk P T) (hS : Fns P S) (hD : DrawSound P S T) {f : FuncId} {fn : Func} {c : Code} (hf : P.funcs[f]? = some fn) (hb : fn.body = some c) {spec : FSpec} {Qp : List AV → List Blk → Exit → ASt → Prop}
    (hqp : ∀ xs pins e σ, Qp xs pins e σ → ∃ σ', Weak σ σ' ∧ Ends T fn.results.toList pins (spec xs pins) e σ')
    (h : ∀ xs pins, (spec xs pins).p → closedB pins = true → pins.length ≤ 4 ∧ rawp S T c (Qp xs pins) ⟨xs ++ List.replicate (fn.ntmps - xs.length) .junk, pinHeap 0 pins, 4⟩) : Sound P f spec := by
  intro xs pins hp hcl w bad pb vs hlen hnd hbad hlies hxl hx
  obtain ⟨hp4, h⟩ := h xs pins hp hcl
  refine calls_of_wp hf hb ?_
  have hrel : Rel w (· ∈ pb) ⟨bad, pb⟩ ⟨xs ++ List.replicate (fn.ntmps - xs.length) .junk, pinHeap 0 pins, 4⟩ { tmps := vs.toArray ++ Array.replicate (fn.ntmps - vs.toArray.size) undef, defers := [] } w := by
    refine ⟨locOf pb bad, ⟨rfl, by simp only; omega, fun k hk => .inr ⟨by simp [locOf, List.getElem?_eq_getElem hk], fun cur e fz hh => ⟨cur, fz, hh, rfl⟩⟩⟩, ?_⟩
    refine ⟨by simp [hxl], fun t => ?_, ?_, ?_, ?_, rfl, fun id b hl => ?_⟩
    · simp only
      rw [slot_getD]
      by_cases ht : t < xs.length
      · have e1 : (xs ++ List.replicate (fn.ntmps - xs.length) AV.junk).getD t .junk = xs[t] := by simp [List.getElem?_append_left, ht]
        have e2 : (vs.toArray ++ Array.replicate (fn.ntmps - vs.toArray.size) undef).getD t undef = vs[t]'(by omega) := by
          have : t < vs.length := by omega
          simp [Array.getD_eq_getD_getElem?, Array.getElem?_append, this]
        rw [e1, e2]
        exact hx t ht _
      · have e1 : (xs ++ List.replicate (fn.ntmps - xs.length) AV.junk).getD t .junk = .junk := by
          rw [List.getD_eq_getElem?_getD, List.getElem?_append_right (by omega), List.getElem?_replicate]
          split <;> rfl
        rw [e1]; exact .junk _
    · intro id b hl
      obtain ⟨j, hj, rfl, rfl⟩ := pinHeap_look pins 0 id b hl
      have hj' : j < pb.length := by omega
      unfold BlkR
      have : (locOf pb bad).m (0 + j) = .here pb[j] := by simp [locOf, List.getElem?_eq_getElem hj']
      rw [this]
      exact hlies j hj hj'
    · refine ⟨rfl, rfl, rfl, Nat.le_refl _, fun _ _ _ => rfl, ?_, ?_, ?_⟩
      · intro i j b hi hj
        obtain ⟨h1, h2⟩ := locOf_at hi
        obtain ⟨h3, h4⟩ := locOf_at hj
        exact nodup_inj hnd (h2.trans h4.symm)
      · intro i b hi
        obtain ⟨h1, h2⟩ := locOf_at hi
        subst h2
        refine ⟨?_, .inr (List.getElem_mem h1)⟩
        obtain ⟨cur, e, fz, hh, _⟩ := (hlies i (by omega) h1).2.lies
        rcases Nat.lt_or_ge pb[i] w.heap.size with h' | h'
        · exact h'
        · rw [Array.getElem?_eq_none h'] at hh; cases hh
      · exact fun b hb => hbad b hb
    · intro id hid
      simp only at hid
      have : pb[id]? = none := List.getElem?_eq_none (by omega)
      simp [locOf, this]
    · obtain ⟨j, hj, rfl, _⟩ := pinHeap_look pins 0 id b hl
      simp; omega
  refine wp_mono (rawp_sound hT hS hD c _ _ _ w h hrel) ?_
  have main : ∀ a w' σ, Rel w (· ∈ pb) ⟨bad, pb⟩ σ a w' → (rvals T σ.H σ.sl fn.results.toList).1 ∧ EndsX pins (spec xs pins) (rone (rvals T σ.H σ.sl fn.results.toList).2) σ →
      a.defers = [] ∧ ∃ v, (results fn a.tmps).run P w' = .ok v w' ∧ ∃ v' loc', Ending.returned v = .returned v' ∧ Gives w bad pb (spec xs pins) v' w' loc' := by
    rintro a w' σ ⟨loc, hB, hr⟩ ⟨hrv, hnodup, hpin, hbl, hren⟩
    obtain ⟨v, hv, hR⟩ := results_R (P := P) (fn := fn) hT hr.heap hr.slots hrv
    refine ⟨hr.defers, v, hv, v, ?_⟩
    generalize rone (rvals T σ.H σ.sl fn.results.toList).2 = x at hnodup hpin hbl hren hR
    have hnd' := nodup_iff hnodup
    obtain ⟨hids1, hids2⟩ := newIds_mem x.ids (upTo 0 pins)
    obtain ⟨hu1, hu2⟩ := upTo_get pins 0
    generalize hids : newIds (upTo 0 pins) x.ids = ids at hnodup hpin hbl hren hnd' hids1 hids2
    obtain ⟨hpl, hpc, hpg⟩ := pinsOf_get hpin
    rw [hbl] at hpl hpc hpg
    obtain ⟨t, rfl⟩ := hids1
    have hm : pins.length ≤ (upTo 0 pins ++ t).length := by simp [hu1]
    have hold : ∀ k, (hk : k < pins.length) → (upTo 0 pins ++ t)[k]'(by omega) = k := by
      intro k hk
      rw [List.getElem_append_left (by omega)]
      have := hu2 k (by omega)
      omega
    -- every one of the names is alive
    have hlive : ∀ (k : Nat) (hk : k < (upTo 0 pins ++ t).length), loc.m (upTo 0 pins ++ t)[k] ≠ .free := by
      intro k hk
      rcases hids2 _ (List.getElem_mem hk) with hi | hi
      · obtain ⟨j, hj, he⟩ := List.getElem_of_mem hi
        rw [← he, hu2 j hj]
        have hj' : j < pb.length := by omega
        rcases hB.2.2 j hj' with h1 | ⟨h1, _⟩
        · rw [Nat.zero_add, h1]; simp
        · rw [Nat.zero_add, h1]; simp
      · exact ids_live x v hR hi
    have hblk : ∀ (k : Nat) (hk : k < (upTo 0 pins ++ t).length) (hk' : k < (spec xs pins).bl.length), BlkR w' loc (upTo 0 pins ++ t)[k] (spec xs pins).bl[k] := by
      intro k hk hk'
      refine hr.heap _ _ ?_
      rw [hpg k hk, List.getElem?_eq_getElem hk']
    have hdead : ∀ (k : Nat) (hk : k < (upTo 0 pins ++ t).length), loc.m (upTo 0 pins ++ t)[k] ≠ .dead := by
      intro k hk e
      have := hblk k hk (by omega)
      unfold BlkR at this
      rw [e] at this
      exact this
    let g : Nat → Nat := gOf (upTo 0 pins ++ t) σ.nx
    have hgo : ∀ k, (hk : k < (upTo 0 pins ++ t).length) → g k = (upTo 0 pins ++ t)[k] := fun k hk => gOf_old hk
    have hgn : ∀ k, (upTo 0 pins ++ t).length ≤ k → loc.m (g k) = .free := by
      intro k hk
      refine hr.fresh _ ?_
      show σ.nx ≤ gOf _ σ.nx k
      rw [gOf_new hk]; omega
    let loc' : Loc := { m := fun k => loc.m (g k), bad := loc.bad }
    have hlt : ∀ i b, loc'.m i = .here b → i < (upTo 0 pins ++ t).length := by
      intro i b hi
      rcases Nat.lt_or_ge i (upTo 0 pins ++ t).length with h' | h'
      · exact h'
      · have : loc'.m i = .free := hgn i h'
        rw [this] at hi; cases hi
    have hinj : ∀ i j b, loc'.m i = .here b → loc'.m j = .here b → i = j := by
      intro i j b hi hj
      have h1 := hlt i b hi
      have h2 := hlt j b hj
      have h3 : g i = g j := hr.env.inj (g i) (g j) b hi hj
      rw [hgo i h1, hgo j h2] at h3
      exact nodup_inj hnd' h3
    have hpb : ∀ (k : Nat) (hk : k < pb.length), loc'.m k = .here pb[k] ∧ ∀ cur e fz, w.heap[pb[k]]? = some (.cells cur e fz) → ∃ cur' fz', w'.heap[pb[k]]? = some (.cells cur' e fz') ∧ cur'.size = cur.size := by
      intro k hk
      have hk1 : k < pins.length := by omega
      have e : loc'.m k = loc.m k := by
        show loc.m (g k) = loc.m k
        rw [hgo k (by omega), hold k hk1]
      rcases hB.2.2 k hk with h1 | ⟨h1, h2⟩
      · have := hdead k (by omega)
        rw [hold k hk1] at this
        exact (this h1).elim
      · exact ⟨e.trans h1, h2⟩
    refine ⟨loc', rfl, ?_⟩
    refine ⟨unren (loc2 := loc') (g := g) (fun _ => rfl) rfl hR _ hren, hB.1, ?_, fun k hk => (hpb k hk).1, ?_, ?_, hinj, ?_⟩
    · intro k hk
      have hk' : k < (upTo 0 pins ++ t).length := by omega
      have e : loc'.m k = loc.m (upTo 0 pins ++ t)[k] := by show loc.m (g k) = _; rw [hgo k hk']
      refine ⟨?_, by rw [e]; exact hlive k hk', by rw [e]; exact hdead k hk'⟩
      have hb := hblk k hk' hk
      unfold BlkR at hb ⊢
      rw [e]
      split
      · trivial
      · rename_i e'; rw [e'] at hb; exact hb
      · rename_i e'; rw [e'] at hb; exact hb
      · rename_i b e'
        rw [e'] at hb
        refine ⟨hb.1, lies_move hb.2 (closedB_get hpc k hk) (.inr ?_)⟩
        rintro c _ (h | ⟨i, h⟩)
        · exact .inl h
        · exact .inr ⟨g i, h⟩
    · intro k b hk hkb
      have := hr.env.lies (g k) b hkb
      refine ⟨?_, this.1⟩
      rcases this.2 with h' | h'
      · exact h'
      · obtain ⟨j, hj, he⟩ := List.getElem_of_mem h'
        have h1 := (hpb j hj).1
        rw [he] at h1
        have := hinj k j b hkb h1
        omega
    · intro k hk
      exact hgn k (by omega)
    · refine ⟨hr.env.os, hr.env.tape, hr.env.output, hr.env.size, hr.env.same, ?_⟩
      rintro b cur e fz hb hh
      obtain ⟨j, hj, rfl⟩ := List.getElem_of_mem hb
      exact (hpb j hj).2 cur e fz hh
  rintro e a w' ⟨σ0, hr0, hq0⟩
  obtain ⟨σ, hwk, hq⟩ := hqp xs pins e σ0 hq0
  have hr := hwk _ _ _ _ _ hr0
  cases e with
  | normal => exact main a w' σ hr hq
  | ret => exact main a w' σ hr hq
  | _ => exact hq.elim

/-- The ending, told with less. -/
def EndsW (T : Types) (rs : List ResultVar) (pins : List Blk) (q : Res) : Exit → ASt → Prop := fun e σ => ∃ σ', Weak σ σ' ∧ Ends T rs pins q e σ'

theorem Weak.refl (σ : ASt) : Weak σ σ := fun _ _ _ _ _ h => h

end Ax
end Go.Proofs.Ytgkkgbomhfdbkaa
