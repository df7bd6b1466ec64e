/- That what is said of maps holds of the model. -/
import Derived.Test.YtbncglnlmcjplaaAxN
import Derived.Laws.IdiomRangeMap
namespace Go.Proofs.Ytbncglnlmcjplaa
namespace Ax
set_option linter.unusedSimpArgs false
set_option linter.unusedVariables false
section ops
variable {P : Program}

theorem at_thing {w : World} {loc : Loc} {H : Heap} (hh : HR w loc H) {id s i f : Nat} {v : Value} {x : Thing} (h : Points loc id s i f v) (hl : look H id = some (.o x)) : ∃ b, loc.m id = .here b ∧ v = refV b s i f ∧ x.says w loc b := by
  have hfr : loc.m id ≠ .free := by intro e; simp [Points, e] at h
  obtain ⟨hok, hn | ⟨b, hb, hlies⟩⟩ := hh.get hl hfr
  · simp [Points, hn.1] at h
  · unfold Points at h; rw [hb] at h
    exact ⟨b, hb, h, hlies.is rfl⟩

theorem mapTy_sound {T : Types} (hT : TOk P T) {t kt et : TypeId} (h : mapTy T t = some (kt, et)) : P.underlying t = some (.map kt et) := by
  unfold mapTy at h
  split at h
  · rename_i ti ht
    have hd := (hT t ti ht).d
    split at h
    · rename_i k e he
      injection h with h; injection h with h1 h2; subst h1 h2
      rw [he] at hd; exact hd
    · cases h
  · cases h

theorem eqV_leaf {T : Types} {n : Nat} {t : TypeId} {x y : AV} (h : (eqV T n t x y).1) : ∃ m, n = m + 1 := by
  cases n with
  | zero => simp [eqV] at h
  | succ m => exact ⟨m, rfl⟩

theorem find_asking {T : Types} (hT : TOk P T) {w : World} {loc : Loc} {kt : TypeId} {k : AV} {vk : Value} (hk : R w loc k vk) : ∀ (es : List (AV × AV)) (ms : List MapEntry) (i : Nat), ms.map kvOf = es.map pp → pureL es → (findM T kt k es i).1 →
    (Instr.findAsking kt vk ms i).run P w = .ok ((findM T kt k es i).2.map fun p => (p.1, pv p.2)) w
  | [], [], i, _, _, _ => by simp [Instr.findAsking, findM]
  | [], _ :: _, _, h, _, _ => by simp at h
  | _ :: _, [], _, h, _, _ => by simp at h
  | p :: es, m :: ms, i, h, hp, hf => by
    simp only [List.map_cons, List.cons.injEq] at h
    obtain ⟨h1, h2⟩ := h
    obtain ⟨f1, f2, f3⟩ := hf
    obtain ⟨p1, p2⟩ := hp p (by simp)
    have hkey : m.key = pv p.1 := congrArg Prod.fst h1
    have hval : m.val = pv p.2 := congrArg Prod.snd h1
    have he : (Op.equal kt vk (pv p.1)).run P w = .ok (eqV T 4 kt k p.1).2 w := eqV_sound hT 4 10000 (by omega) kt k p.1 vk _ hk (pure_R (pureK_pure p1)) f1
    simp only [Instr.findAsking, findM, Sem.run_bind, hkey, he, Result.andThen_ok]
    cases hc : (eqV T 4 kt k p.1).2 with
    | true => simp [hval]
    | false =>
      simp only [Bool.false_eq_true, if_false, cond_false]
      exact find_asking hT hk es ms (i + 1) h2 (fun q hq => hp q (by simp [hq])) (f3 hc)

theorem same_now0 (n : Nat) {d : TypeDesc} {t : TypeId} {x y : Value} {b : Bool} {w : World} (hd : P.underlying t = some d) (h : Instr.sameNow d x y = some b) : (Op.equalIn (n + 1) t x y).run P w = .ok b w := by
  unfold Instr.sameNow at h
  split at h
  · rename_i k a k' b'
    split at h
    · rename_i hk; subst hk
      injection h with h; subst h
      exact run_equalIn_int w n t k _ _ _ hd
    · cases h
  · injection h with h; subst h
    simp [Op.equalIn, run_underlying hd]
  · injection h with h; subst h
    simp [Op.equalIn, run_underlying hd]
  · cases h

theorem same_now {d : TypeDesc} {t : TypeId} {x y : Value} {b : Bool} {w : World} (hd : P.underlying t = some d) (h : Instr.sameNow d x y = some b) : (Op.equal t x y).run P w = .ok b w := same_now0 9999 hd h

theorem find_now {T : Types} (hT : TOk P T) {w : World} {loc : Loc} {kt : TypeId} {d : TypeDesc} (hd : P.underlying kt = some d) {k : AV} {vk : Value} (hk : R w loc k vk) : ∀ (es : List (AV × AV)) (ms : List MapEntry) (i : Nat) (r : Option (Nat × Value)), ms.map kvOf = es.map pp → pureL es → (findM T kt k es i).1 →
    Instr.findNow d vk ms i = some r → r = (findM T kt k es i).2.map fun p => (p.1, pv p.2)
  | [], [], i, r, _, _, _, h => by simp [Instr.findNow] at h; simp [findM, ← h]
  | [], _ :: _, _, _, h, _, _, _ => by simp at h
  | _ :: _, [], _, _, h, _, _, _ => by simp at h
  | p :: es, m :: ms, i, r, h, hp, hf, hr => by
    simp only [List.map_cons, List.cons.injEq] at h
    obtain ⟨h1, h2⟩ := h
    obtain ⟨f1, f2, f3⟩ := hf
    obtain ⟨p1, p2⟩ := hp p (by simp)
    have hkey : m.key = pv p.1 := congrArg Prod.fst h1
    have hval : m.val = pv p.2 := congrArg Prod.snd h1
    have he : (Op.equal kt vk (pv p.1)).run P w = .ok (eqV T 4 kt k p.1).2 w := eqV_sound hT 4 10000 (by omega) kt k p.1 vk _ hk (pure_R (pureK_pure p1)) f1
    simp only [Instr.findNow, hkey] at hr
    split at hr
    · rename_i hs
      have h9 := same_now (P := P) (w := w) hd hs
      rw [he] at h9; injection h9 with h9
      injection hr with hr; subst hr
      simp [findM, h9, hval]
    · rename_i hs
      have h9 := same_now (P := P) (w := w) hd hs
      rw [he] at h9; injection h9 with h9
      simp only [findM, h9, cond_false]
      exact find_now hT hd hk es ms (i + 1) r h2 (fun q hq => hp q (by simp [hq])) (f3 h9) hr
    · cases hr

theorem run_findKey {T : Types} (hT : TOk P T) {w : World} {loc : Loc} {kt : TypeId} {k : AV} {vk : Value} (hk : R w loc k vk) {es : List (AV × AV)} {ms : List MapEntry} (h : ms.map kvOf = es.map pp) (hp : pureL es) (hf : (findM T kt k es 0).1) {d : TypeDesc} (hd : P.underlying kt = some d) :
    (Instr.findKey kt vk ms).run P w = .ok ((findM T kt k es 0).2.map fun p => (p.1, pv p.2)) w := by
  simp only [Instr.findKey, Sem.run_bind, run_underlying hd, Result.andThen_ok]
  split
  · rename_i r hr
    have := find_now hT hd hk es ms 0 r h hp hf hr
    subst this
    simp
  · exact find_asking hT hk es ms 0 h hp hf

theorem check_fields {T : Types} (hT : TOk P T) {w : World} {loc : Loc} (e : Bool) {n d : Nat} {xs : List AV} {cs : Array Value} (hc : CellsOf w loc xs cs.toList)
    (ih : ∀ (t : TypeId) (x : AV) (v : Value), R w loc x v → (eqV T n t x x).1 → (Instr.checkKey e d t v).run P w = .ok () w) : ∀ (gs : List Field), (eqF (eqV T n) T (gs.map fun f => (f.offset, f.type)) xs xs).1 →
    (forIn gs PUnit.unit fun f __s => if f.name ≠ "_" then do
              let __do_lift ← part f.type cs f.offset
              Instr.checkKey e d f.type __do_lift
              pure (ForInStep.yield PUnit.unit)
            else pure (ForInStep.yield PUnit.unit) : Sem PUnit).run P w = .ok PUnit.unit w
  | [], _ => by simp
  | g :: gs, hp => by
    simp only [List.map_cons, eqF] at hp
    cases ht : T g.type with
    | none => simp [ht] at hp
    | some te =>
      simp only [ht] at hp
      obtain ⟨h1, _, h3, h4⟩ := hp
      obtain ⟨u, hu, hur, _⟩ := sub_part (P := P) (H := []) (hT _ _ ht) hc h1
      have hk := ih _ _ _ hur h3
      have hr := check_fields hT e hc ih gs h4
      simp only [List.forIn_cons, Sem.run_bind, Sem.run_ite]
      split
      · simp only [hu, Result.andThen_ok, hk, Sem.run_pure]
        exact hr
      · simp only [Result.andThen_ok, Sem.run_pure]
        exact hr

/-- A key is one that may be asked. -/
theorem run_checkKey {T : Types} (hT : TOk P T) {w : World} {loc : Loc} (e : Bool) : ∀ (n d : Nat), n ≤ d → ∀ (t : TypeId) (x : AV) (v : Value), R w loc x v → (eqV T n t x x).1 → (Instr.checkKey e d t v).run P w = .ok () w
  | 0, _, _, _, _, _, _, hp => by simp [eqV] at hp
  | n + 1, 0, hd, _, _, _, _, _ => by omega
  | n + 1, d + 1, hd, t, x, v, hx, hp => by
    unfold eqV at hp
    cases ht : T t with
    | none => simp [ht] at hp
    | some i =>
      simp only [ht] at hp
      have h1 := (hT t i ht).d
      cases hi : i.d with
      | int k =>
        rw [hi] at h1
        have h1 : P.underlying t = some (.int k) := h1
        simp [Instr.checkKey, run_underlying h1]
      | bool =>
        rw [hi] at h1
        have h1 : P.underlying t = some .bool := h1
        simp [Instr.checkKey, run_underlying h1]
      | str =>
        rw [hi] at h1
        have h1 : P.underlying t = some .string := h1
        simp [Instr.checkKey, run_underlying h1]
      | struct fs =>
        rw [hi] at h1
        obtain ⟨gs, hu, rfl⟩ := h1
        simp only [hi] at hp
        split at hp
        · rename_i xs
          obtain ⟨cs, rfl, hc⟩ := agg_cells hx
          simp only [Instr.checkKey, Sem.run_bind, run_underlying hu, Result.andThen_ok]
          rw [← Array.forIn_toList]
          have hl := check_fields (P := P) (w := w) hT e hc (fun t x v a b => run_checkKey hT e n d (by omega) t x v a b) gs.toList hp
          simp only [hl, Result.andThen_ok, Sem.run_pure]
        · exact hp.elim
      | slice e => simp [hi] at hp
      | ptr => simp [hi] at hp
      | arr n e => simp [hi] at hp
      | func => simp [hi] at hp
      | map k e => simp [hi] at hp
      | other => simp [hi] at hp
theorem sameBits_bare {x : AV} (n : Nat) (h : bareK x = true) : Instr.sameBits n (pl x) (pl x) = true := by
  unfold bareK at h
  split at h <;> first | (cases n <;> simp [pl, Instr.sameBits, beq_toListBytes]; done) | cases h
theorem sameBits_list (n : Nat) : ∀ (xs : List AV), xs.all bareK = true → (((xs.map pl).zip (xs.map pl)).all fun p => Instr.sameBits n p.1 p.2) = true
  | [], _ => rfl
  | x :: r, h => by
    simp only [List.all_cons, Bool.and_eq_true] at h
    simp only [List.map_cons, List.zip_cons_cons, List.all_cons, sameBits_bare n h.1, Bool.true_and]
    exact sameBits_list n r h.2
theorem sameBits_key {x : AV} (h : x.pureK = true) : Instr.sameBits 10000 (pv x) (pv x) = true := by
  cases x with
  | agg xs =>
    have := sameBits_list 9999 xs h
    have h2 : ∀ n, Instr.sameBits (n + 1) (.agg (xs.map pl).toArray) (.agg (xs.map pl).toArray) = (((xs.map pl).zip (xs.map pl)).all fun p => Instr.sameBits n p.1 p.2) := fun n => by simp [Instr.sameBits]
    exact (h2 9999).trans this
  | _ => simp only [AV.pureK] at h; simp only [pv]; exact sameBits_bare 10000 h

theorem findM_some {T : Types} {kt : TypeId} {k : AV} : ∀ (es : List (AV × AV)) (i j : Nat) (v : AV), (findM T kt k es i).2 = some (j, v) → (findM T kt k es i).1 → ∃ m, j = i + m ∧ es[m]? = some (k, v)
  | [], _, _, _, h, _ => by simp [findM] at h
  | p :: es, i, j, v, h, hp => by
    obtain ⟨f1, f2, f3⟩ := hp
    simp only [findM] at h
    cases hc : (eqV T 4 kt k p.1).2 with
    | true =>
      rw [hc] at h; simp only [cond_true] at h
      injection h with h; injection h with h1 h2
      refine ⟨0, h1.symm, ?_⟩
      have := f2 hc
      obtain ⟨a, b⟩ := p
      simp only at this h2
      simp [this, h2]
    | false =>
      rw [hc] at h; simp only [cond_false] at h
      obtain ⟨m, h1, h2⟩ := findM_some es (i + 1) j v h (f3 hc)
      exact ⟨m + 1, by omega, by simpa using h2⟩

theorem kv_get {es : List (AV × AV)} {ms : List MapEntry} (h : ms.map kvOf = es.map pp) {m : Nat} {p : AV × AV} (hm : es[m]? = some p) : ∃ e, ms[m]? = some e ∧ e.key = pv p.1 ∧ e.val = pv p.2 := by
  have h1 := congrArg (fun l => l[m]?) h
  simp only [List.getElem?_map, hm, Option.map_some] at h1
  cases he : ms[m]? with
  | none => rw [he] at h1; cases h1
  | some e =>
    rw [he] at h1
    injection h1 with h1
    exact ⟨e, rfl, congrArg Prod.fst h1, congrArg Prod.snd h1⟩

theorem pureL_get {es : List (AV × AV)} (h : pureL es) {m : Nat} {p : AV × AV} (hm : es[m]? = some p) : p.1.pureK = true ∧ p.2.pure = true := h p (List.mem_of_getElem? hm)

theorem run_obj {w : World} {b : Nat} {ob : Obj} (h : w.heap[b]? = some ob) (ho : Obj.odd ob = true := by rfl) : (getObj b).run P w = .ok ob w := by
  cases ob <;> first | (cases ho; done) | simp [getObj, Sem.run, h]
theorem run_setObj {w : World} {b : Nat} {ob ob' : Obj} (h : w.heap[b]? = some ob) (ho : Obj.odd ob = true := by rfl) : (setObj b ob').run P w = .ok () { w with heap := w.heap.setIfInBounds b ob' } := by
  cases ob <;> first | (cases ho; done) | simp [setObj, Sem.run, h]
theorem eqV_ty {T : Types} {n : Nat} {kt : TypeId} {x y : AV} (h : (eqV T n kt x y).1) : ∃ ti, T kt = some ti := by
  cases n with
  | zero => simp [eqV] at h
  | succ n =>
    unfold eqV at h
    cases hc : T kt with
    | none => simp [hc] at h
    | some ti => exact ⟨ti, rfl⟩
theorem put_thing {w0 : World} {E : Nat → Prop} {w : World} {loc : Loc} {H : Heap} {id b nm : Nat} {y : Thing} {ob ob' : Obj} {u : AV} {v : Value}
    (he : Env w0 E w loc) (hh : HR w loc H) (hb : loc.m id = .here b) (hw : w.heap[b]? = some ob) (hob : Obj.odd ob = true)
    (hy : y.says { w with heap := w.heap.setIfInBounds b ob' } loc b) (hx : ∀ w' loc', R w' loc' u v) :
    Post w0 E w loc true nm u (put H id (.o y)) v { w with heap := w.heap.setIfInBounds b ob' } loc :=
  post_set he hh hb hw hob hy (fun c hc => by simp only; rw [Array.getElem?_setIfInBounds, if_neg (Ne.symm hc)]) (by simp) rfl rfl rfl hx
theorem set_at {w : World} {b : Nat} {ob ob' : Obj} (hw : w.heap[b]? = some ob) : ({ w with heap := w.heap.setIfInBounds b ob' } : World).heap[b]? = some ob' := by
  have hlt : b < w.heap.size := (Array.getElem?_eq_some_iff.1 hw).1
  simp [Array.getElem?_setIfInBounds, hlt]

theorem map_modify {ms : List MapEntry} {es : List (AV × AV)} (h : ms.map kvOf = es.map pp) {m : Nat} {k v : AV} (f : MapEntry → MapEntry) (hf : ∀ e, kvOf (f e) = pp (k, v)) : (ms.modify m f).map kvOf = (es.set m (k, v)).map pp := by
  refine List.ext_getElem? fun j => ?_
  have h1 := congrArg (fun l => l[j]?) h
  simp only [List.getElem?_map] at h1
  simp only [List.getElem?_map, List.getElem?_modify, List.getElem?_set]
  by_cases hj : m = j
  · subst hj
    simp only [if_true]
    cases hm : ms[m]? with
    | none =>
      rw [hm] at h1
      have h2 : es[m]? = none := by
        cases he : es[m]? with
        | none => rfl
        | some p => rw [he] at h1; cases h1
      have h3 : ¬ m < es.length := by intro h4; rw [List.getElem?_eq_getElem h4] at h2; cases h2
      simp [h3]
    | some e =>
      have h2 : m < es.length := by
        rcases Nat.lt_or_ge m es.length with h4 | h4
        · exact h4
        · rw [hm, List.getElem?_eq_none h4] at h1; cases h1
      simp [h2, hf]
  · simp only [if_neg hj]
    rw [show ((fun a => a) <$> ms[j]?) = ms[j]? from by cases ms[j]? <;> rfl]
    exact h1
theorem born_modify {ms : List MapEntry} {m : Nat} (f : MapEntry → MapEntry) (hf : ∀ e, (f e).born = e.born) : (ms.modify m f).map (·.born) = ms.map (·.born) := by
  refine List.ext_getElem? fun j => ?_
  simp only [List.getElem?_map, List.getElem?_modify]
  by_cases hj : m = j
  · subst hj; simp only [if_true]; cases ms[m]? <;> simp [hf]
  · simp only [if_neg hj]; cases ms[j]? <;> rfl

theorem pureL_set {es : List (AV × AV)} (h : pureL es) {m : Nat} {k v : AV} (hk : k.pureK = true) (hv : v.pure = true) : pureL (es.set m (k, v)) := by
  intro p hp
  rcases List.mem_or_eq_of_mem_set hp with h1 | rfl
  · exact h p h1
  · exact ⟨hk, hv⟩

/-- The entries behind a change of one of them. -/
theorem ents_set {es : List (AV × AV)} {ms : List MapEntry} {clk : Nat} (h : Ents es ms clk) {m : Nat} {k v : AV} (hk : k.pureK = true) (hv : v.pure = true) (f : MapEntry → MapEntry) (hf : ∀ e, kvOf (f e) = pp (k, v)) (hb : ∀ e, (f e).born = e.born) : Ents (es.set m (k, v)) (ms.modify m f) clk := by
  refine ⟨map_modify h.kv f hf, pureL_set h.pure hk hv, by rw [born_modify f hb]; exact h.nd, fun e he => ?_⟩
  have h1 : e.born ∈ ms.map (·.born) := by rw [← born_modify (m := m) f hb]; exact List.mem_map.2 ⟨e, he, rfl⟩
  obtain ⟨e', h2, h3⟩ := List.mem_map.1 h1
  rw [← h3]; exact h.old e' h2
theorem ents_push {es : List (AV × AV)} {ms : List MapEntry} {clk : Nat} (h : Ents es ms clk) {k v : AV} (hk : k.pureK = true) (hv : v.pure = true) : Ents (es ++ [(k, v)]) (ms ++ [{ key := pv k, val := pv v, born := clk }]) (clk + 1) := by
  refine ⟨by simp [h.kv, kvOf, pp], ?_, ?_, ?_⟩
  · intro p hp
    rcases List.mem_append.1 hp with h1 | h1
    · exact h.pure p h1
    · simp at h1; subst h1; exact ⟨hk, hv⟩
  · rw [List.map_append, List.nodup_append]
    refine ⟨h.nd, by simp, ?_⟩
    intro a ha b hb
    simp at hb
    obtain ⟨e, he, rfl⟩ := List.mem_map.1 ha
    have := h.old e he
    omega
  · intro e he
    rcases List.mem_append.1 he with h1 | h1
    · have := h.old e h1; omega
    · simp at h1; subst h1; simp

theorem update_post {T : Types} (hT : TOk P T) {w0 : World} {E : Nat → Prop} {w : World} {loc : Loc} {H : Heap} (he : Env w0 E w loc) (hh : HR w loc H) {nm : Nat} {t : TypeId} {x k v : AV} {vx vk vv : Value} (hx : R w loc x vx) (hk : R w loc k vk) (hv : R w loc v vv) (hp : (aUpdate T t x k v H).p) :
    ∃ w', (Instr.mapUpdate t vx vk vv).run P w = .ok () w' ∧ Post w0 E w loc true nm (aUpdate T t x k v H).x (aUpdate T t x k v H).H undef w' loc := by
  unfold aUpdate at hp ⊢
  split at hp
  · rename_i kt et hm
    have hu := mapTy_sound hT hm
    split at hp
    · rename_i id s i f
      split at hp
      · rename_i es hl
        obtain ⟨rfl, hkp, hvp, hkk, hfd⟩ := hp
        cases hx with
        | rf _ _ _ _ _ h =>
          obtain ⟨b, hb, rfl, ms, clk, h1, h2⟩ := at_thing hh h hl
          have hvk := R_pure (pureK_pure hkp) hk
          have hvv := R_pure hvp hv
          obtain ⟨ti, hti⟩ := eqV_ty hkk
          obtain ⟨d, hd⟩ := under_some (hT kt ti hti)
          have hck := run_checkKey (P := P) hT false 4 10000 (by omega) kt k vk hk hkk
          have hfk := run_findKey (P := P) hT hk h2.kv h2.pure hfd hd
          have hin : ∀ p, (findM T kt k es 0).2 = some p → ∃ e, ms.toList[p.1]? = some e ∧ e.key = pv k := by
            intro p hp9
            obtain ⟨m, h9, hm9⟩ := findM_some es 0 p.1 p.2 hp9 hfd
            obtain rfl : p.1 = m := by omega
            obtain ⟨e, h3, h4, _⟩ := kv_get h2.kv hm9
            exact ⟨e, h3, h4⟩
          generalize (findM T kt k es 0).2 = r at hfk hin ⊢
          cases r with
          | none =>
            refine ⟨_, ?_, put_thing (ob' := .map (ms.push { key := vk, val := vv, born := clk }) (clk + 1)) he hh hb h1 rfl ⟨_, _, set_at h1, ?_⟩ (fun _ _ => .junk _)⟩
            · simp [Instr.mapUpdate, run_underlying hu, refV, run_obj h1, hck, hfk, run_setObj h1]
            · have := ents_push h2 hkp hvp
              simpa [putM, hvk, hvv] using this
          | some p =>
            obtain ⟨e, h3, h4⟩ := hin p rfl
            have hstay : ∀ W, (Instr.keyThatStays (pv k) (pv k)).run P W = .ok (pv k) W := fun W => by simp [Instr.keyThatStays, sameBits_key hkp]
            have h5 : ((ms[p.1]?).map (·.key)).getD vk = pv k := by
              have : ms[p.1]? = some e := by rw [← h3]; simp
              simp [this, h4]
            refine ⟨_, ?_, put_thing (ob' := .map (ms.modify p.1 fun e => { e with key := pv k, val := vv }) clk) he hh hb h1 rfl ⟨_, _, set_at h1, ?_⟩ (fun _ _ => .junk _)⟩
            · subst hvk
              simp only [Instr.mapUpdate, run_underlying hu, refV, if_true, run_obj h1, hck, hfk, Sem.run_bind, Result.andThen_ok, Option.map_some, h5, hstay, run_setObj h1]
            · have := ents_set h2 (m := p.1) hkp hvp (fun e => { e with key := pv k, val := vv }) (fun e => by simp [kvOf, pp, hvv]) (fun e => rfl)
              simpa [putM] using this
      · exact hp.elim
    · exact hp.elim
  · exact hp.elim

theorem entry_sound {w : World} {loc : Loc} {H : Heap} (hh : HR w loc H) {x : AV} {vx : Value} (hx : R w loc x vx) (hp : (aEntry x H).p) :
    ∃ u, (Instr.entry vx).run P w = .ok u w ∧ R w loc (aEntry x H).x u ∧ (aEntry x H).H = H := by
  unfold aEntry at hp ⊢
  split at hp
  · rename_i id s i f
    split at hp
    · rename_i es p hl
      obtain ⟨⟨rfl, rfl⟩, hs⟩ := hp
      cases hx with
      | rf _ _ _ _ _ h =>
        obtain ⟨b, hb, rfl, m, ms, clk, seen, h1, h2, h3, h4⟩ := at_thing hh h hl
        obtain ⟨⟨hp1, hp2⟩, e, he, hback, hkv⟩ := h4.now p rfl
        have hf : ms.find? (·.born == e.born) = some e := by rw [← Array.find?_toList]; exact find_born e ms.toList h4.nd he
        refine ⟨.tuple #[e.key, e.val], ?_, .tup [p.1, p.2] [e.key, e.val] rfl (fun j h5 h6 => ?_), rfl⟩
        · rw [refV_ptr hs]
          simp [Instr.entry, run_obj h1, run_obj h2, hback, hf]
        · have : j = 0 ∨ j = 1 := by simp at h5; omega
          have e1 : e.key = pv p.1 := congrArg Prod.fst hkv
          have e2 : e.val = pv p.2 := congrArg Prod.snd hkv
          rcases this with rfl | rfl
          · simp only [List.getElem_cons_zero, e1]; exact pure_R (pureK_pure hp1)
          · simp only [List.getElem_cons_succ, List.getElem_cons_zero, e2]; exact pure_R hp2
    · exact hp.elim
  · exact hp.elim

theorem makeMap_post {w0 : World} {E : Nat → Prop} {w : World} {loc : Loc} {H : Heap} {wr : Bool} (he : Env w0 E w loc) (hh : HR w loc H) {nm : Nat} (hf : loc.m nm = .free) {t : TypeId} :
    ∃ u w' loc', (Instr.makeMap t none).run P w = .ok u w' ∧ Post w0 E w loc wr nm (.rf nm 0 0 0) (put H nm (.o (.mp []))) u w' loc' := by
  have hp : Pushed w { w with heap := w.heap.push (.map #[] 0) } (.map #[] 0) := ⟨rfl, rfl, rfl, rfl⟩
  refine ⟨_, _, _, ?_, post_pushO (s := 0) (x := .mp []) he hh hf hp ⟨#[], 0, pushed_new hp, ⟨rfl, by intro p hp; simp at hp, by simp, by simp⟩⟩⟩
  simp [Instr.makeMap, newObj, Sem.run, refV]

theorem lookup_sound {T : Types} (hT : TOk P T) {w : World} {loc : Loc} {H : Heap} (hh : HR w loc H) {t : TypeId} {x k : AV} {vx vk : Value} {ok : Bool} (hx : R w loc x vx) (hk : R w loc k vk) (hp : (aLookup T t x k ok H).p) :
    ∃ u, (Instr.lookup t vx vk ok).run P w = .ok u w ∧ R w loc (aLookup T t x k ok H).x u ∧ (aLookup T t x k ok H).H = H := by
  unfold aLookup at hp ⊢
  split at hp
  · rename_i kt et hm
    have hu := mapTy_sound hT hm
    split at hp
    · rename_i te hte
      split at hp
      · rename_i id s i f
        split at hp
        · rename_i es hl
          obtain ⟨rfl, hkp, hkk, hfd⟩ := hp
          cases hx with
          | rf _ _ _ _ _ h =>
            obtain ⟨b, hb, rfl, ms, clk, h1, h2⟩ := at_thing hh h hl
            have hvk := R_pure (pureK_pure hkp) hk
            obtain ⟨ti, hti⟩ := eqV_ty hkk
            obtain ⟨d, hd⟩ := under_some (hT kt ti hti)
            have hck := run_checkKey (P := P) hT (ms.isEmpty) 4 10000 (by omega) kt k vk hk hkk
            have hfk := run_findKey (P := P) hT hk h2.kv h2.pure hfd hd
            have hz := run_zeroValue' (P := P) (hT et te hte) w
            obtain ⟨z, hz1, hz2, hz3⟩ := hz
            have hin : ∀ p, (findM T kt k es 0).2 = some p → p.2.pure = true := by
              intro p hp9
              obtain ⟨m, _, hm9⟩ := findM_some es 0 p.1 p.2 hp9 hfd
              exact (pureL_get h2.pure hm9).2
            generalize (findM T kt k es 0).2 = r at hfk hin ⊢
            cases r with
            | none =>
              cases ok with
              | true =>
                refine ⟨.tuple #[z, .bool false], ?_, .tup [asv te te.zero, .w (.bool false)] [z, .bool false] rfl (fun j h3 h4 => ?_), rfl⟩
                · simp [Instr.lookup, run_underlying hu, refV, run_obj h1, hck, hfk, hz1]
                · have : j = 0 ∨ j = 1 := by simp at h3; omega
                  rcases this with rfl | rfl
                  · exact (hz3 w loc).2
                  · exact .w _ rfl
              | false =>
                refine ⟨z, ?_, (hz3 w loc).2, rfl⟩
                simp [Instr.lookup, run_underlying hu, refV, run_obj h1, hck, hfk, hz1]
            | some p =>
              have hpp := hin p rfl
              cases ok with
              | true =>
                refine ⟨.tuple #[pv p.2, .bool true], ?_, .tup [p.2, .w (.bool true)] [pv p.2, .bool true] rfl (fun j h3 h4 => ?_), rfl⟩
                · simp [Instr.lookup, run_underlying hu, refV, run_obj h1, hck, hfk]
                · have : j = 0 ∨ j = 1 := by simp at h3; omega
                  rcases this with rfl | rfl
                  · exact pure_R hpp
                  · exact .w _ rfl
              | false =>
                refine ⟨pv p.2, ?_, pure_R hpp, rfl⟩
                simp [Instr.lookup, run_underlying hu, refV, run_obj h1, hck, hfk]
        · exact hp.elim
      · exact hp.elim
    · exact hp.elim
  · exact hp.elim
theorem ext_comp {C D : Nat → Prop} {w w1 w2 : World} {loc loc1 loc2 : Loc} (h : Ext C w loc w1 loc1) (k : Ext D w1 loc1 w2 loc2) (hD : ∀ id, ¬ D id) : Ext C w loc w2 loc2 := by
  refine ⟨Nat.le_trans h.size k.size, fun id a c => ?_, fun id a c => ?_, fun b hb hm => ?_, fun id b a c => ?_, fun b cur e fz hc => ?_⟩
  · have h1 := h.keep id a c
    rw [← h1]
    exact k.keep id (by rw [h1]; exact a) (hD id)
  · rcases h.gone id a c with h1 | h1
    · left; rw [← h1]; exact k.keep id (by rw [h1]; exact a) (hD id)
    · right; rw [← h1]; exact k.keep id (by rw [h1]; simp) (hD id)
  · obtain ⟨h1, h2⟩ := h.imm b hb hm
    obtain ⟨h3, h4⟩ := k.imm b (Nat.lt_of_lt_of_le hb h.size) h2
    exact ⟨h3.trans h1, h4⟩
  · have h1 := h.own id b a c
    have h2 := h.keep id (by rw [a]; simp) c
    exact (k.own id b (h2.trans a) (hD id)).trans h1
  · obtain ⟨c1, f1, h1, h2⟩ := h.shape b cur e fz hc
    obtain ⟨c2, f2, h3, h4⟩ := k.shape b c1 e f1 h1
    exact ⟨c2, f2, h3, h4.trans h2⟩

/-- A block of the call's own is given up. -/
theorem kill {w0 : World} {E : Nat → Prop} {w : World} {loc : Loc} {H : Heap} (he : Env w0 E w loc) (hh : HR w loc H) {id b : Nat} (hb : loc.m id = .here b) :
    Env w0 E w (loc.set id .dead) ∧ HR w (loc.set id .dead) (drop H id) ∧ Ext (fun k => k = id) w loc w (loc.set id .dead) := by
  have hset : ∀ {k c}, (loc.set id .dead).m k = .here c → loc.m k = .here c := by
    intro k c h
    by_cases hk : k = id
    · subst hk; rw [Loc.set_same] at h; cases h
    · rw [Loc.set_other _ _ hk] at h; exact h
  have hE : Ext (fun k => k = id) w loc w (loc.set id .dead) := by
    refine ⟨Nat.le_refl _, fun k _ hk => Loc.set_other _ _ hk, fun k _ hk => ?_, fun c hc hm => ⟨rfl, fun hM => hm ?_⟩, fun _ _ _ _ => rfl, fun c cur e fz hc => ⟨cur, fz, hc, rfl⟩⟩
    · subst hk; right; exact Loc.set_same _ _ _
    · rcases hM with hM | ⟨k, hM⟩
      · exact .inl hM
      · exact .inr ⟨k, hset hM⟩
  refine ⟨⟨he.os, he.tape, he.output, he.size, he.same, fun i j c h1 h2 => he.inj i j c (hset h1) (hset h2), fun i c h1 => he.lies i c (hset h1), he.bad⟩, fun k blk hk => ?_, hE⟩
  rw [look_drop] at hk
  split at hk
  · cases hk
  · rename_i hne
    by_cases hfr : loc.m k = .free
    · exact BlkR.free (by rw [Loc.set_other _ _ (Ne.symm hne)]; exact hfr)
    · exact (hh k blk hk).ext hE (Ne.symm hne) hfr

theorem erase_map {α β : Type} (f : α → β) : ∀ (l : List α) (m : Nat), (l.eraseIdx m).map f = (l.map f).eraseIdx m
  | [], _ => by simp
  | x :: r, 0 => by simp
  | x :: r, m + 1 => by simp [erase_map f r m]
theorem map_erase {ms : List MapEntry} {es : List (AV × AV)} (h : ms.map kvOf = es.map pp) (m : Nat) : (ms.eraseIdx m).map kvOf = (es.eraseIdx m).map pp := by
  rw [erase_map, erase_map, h]
theorem ents_erase {es : List (AV × AV)} {ms : List MapEntry} {clk : Nat} (h : Ents es ms clk) (m : Nat) : Ents (es.eraseIdx m) (ms.eraseIdx m) clk := by
  refine ⟨map_erase h.kv m, fun p hp => h.pure p (List.mem_of_mem_eraseIdx hp), ?_, fun e he => h.old e (List.mem_of_mem_eraseIdx he)⟩
  rw [erase_map]
  exact List.Nodup.sublist (List.eraseIdx_sublist _ _) h.nd

theorem delete_post {T : Types} (hT : TOk P T) {w0 : World} {E : Nat → Prop} {w : World} {loc : Loc} {H : Heap} (he : Env w0 E w loc) (hh : HR w loc H) {nm : Nat} {t u : TypeId} {ts : List TypeId} {x k : AV} {vx vk : Value} (hx : R w loc x vx) (hk : R w loc k vk) (hp : (aDelete T t x k H).p) :
    ∃ v w', (Builtin.delete_ (t :: ts).toArray u #[vx, vk]).run P w = .ok v w' ∧ Post w0 E w loc true nm (aDelete T t x k H).x (aDelete T t x k H).H v w' loc := by
  unfold aDelete at hp ⊢
  split at hp
  · rename_i kt et hm
    have hu := mapTy_sound hT hm
    split at hp
    · rename_i id s i f
      split at hp
      · rename_i es hl
        obtain ⟨rfl, hkp, hkk, hfd⟩ := hp
        cases hx with
        | rf _ _ _ _ _ h =>
          obtain ⟨b, hb, rfl, ms, clk, h1, h2⟩ := at_thing hh h hl
          obtain ⟨ti, hti⟩ := eqV_ty hkk
          obtain ⟨d, hd⟩ := under_some (hT kt ti hti)
          have hck := run_checkKey (P := P) hT ms.isEmpty 4 10000 (by omega) kt k vk hk hkk
          have hfk := run_findKey (P := P) hT hk h2.kv h2.pure hfd hd
          generalize (findM T kt k es 0).2 = r at hfk ⊢
          cases r with
          | none =>
            refine ⟨.tuple #[], _, ?_, put_thing (ob' := .map ms clk) he hh hb h1 rfl ⟨_, _, set_at h1, ?_⟩ (fun _ _ => .junk _)⟩
            · simp [Builtin.delete_, run_underlying hu, refV, run_obj h1, hck, hfk, run_setObj h1]
            · exact h2
          | some p =>
            refine ⟨.tuple #[], _, ?_, put_thing (ob' := .map (ms.eraseIdxIfInBounds p.1) clk) he hh hb h1 rfl ⟨_, _, set_at h1, ?_⟩ (fun _ _ => .junk _)⟩
            · simp [Builtin.delete_, run_underlying hu, refV, run_obj h1, hck, hfk, run_setObj h1]
            · have := ents_erase h2 p.1
              simpa [cutM] using this
      · exact hp.elim
    · exact hp.elim
  · exact hp.elim

theorem range_post {w0 : World} {E : Nat → Prop} {w : World} {loc : Loc} {H : Heap} {T : Types} {wr : Bool} (hT : TOk P T) (he : Env w0 E w loc) (hh : HR w loc H) {nm : Nat} (hf : loc.m nm = .free) {t : TypeId} {x : AV} {v : Value} (hx : R w loc x v) (hp : (aRange T nm t x H).p) (hw : isStrTy T t = false → wr = true) :
    ∃ u w' loc', (Instr.range t v).run P w = .ok u w' ∧ Post w0 E w loc wr nm (aRange T nm t x H).x (aRange T nm t x H).H u w' loc' := by
  unfold aRange at hp ⊢
  cases ht : T t with
  | none => simp [ht, bad] at hp
  | some ti =>
    simp only [ht] at hp ⊢
    have hd := (hT t ti ht).d
    cases hdd : ti.d with
    | str =>
      simp only [hdd] at hp ⊢
      rw [hdd] at hd
      have hd : P.underlying t = some .string := hd
      split at hp
      · rename_i bs
        cases hx
        refine ⟨.pointer (some ⟨w.heap.size, 0, none⟩), { w with heap := w.heap.push (.stringIter ⟨bs.toArray⟩ 0) }, loc.set nm (.here w.heap.size), ?_, post_pushO (s := 1) (x := .it bs 0) (ob := .stringIter ⟨bs.toArray⟩ 0) he hh hf ⟨rfl, rfl, rfl, rfl⟩ (by show (w.heap.push _)[w.heap.size]? = _; simp)⟩
        simp [Instr.range, run_underlying hd, newObj, Sem.run]
      · exact hp.elim
    | map k e =>
      simp only [hdd] at hp ⊢
      rw [hdd] at hd
      have hd : P.underlying t = some (.map k e) := hd
      obtain rfl : wr = true := hw (by simp [isStrTy, ht, hdd])
      split at hp
      · rename_i id s i f
        split at hp
        · rename_i es hl
          obtain rfl := hp
          cases hx with
          | rf _ _ _ _ _ h =>
            obtain ⟨b, hb, rfl, ms, clk, h1, h2⟩ := at_thing hh h hl
            have hid : nm ≠ id := by rintro rfl; rw [hb] at hf; cases hf
            obtain ⟨k1, k2, k3⟩ := kill he hh hb
            have hpu : Pushed w { w with heap := w.heap.push (.mapIter (some b) clk #[] clk) } (.mapIter (some b) clk #[] clk) := ⟨rfl, rfl, rfl, rfl⟩
            have hlt : b < w.heap.size := (Array.getElem?_eq_some_iff.1 h1).1
            have hf1 : (loc.set id .dead).m nm = .free := by rw [Loc.set_other _ _ hid]; exact hf
            have hnm : ¬ Mut ((loc.set id .dead).set nm (.here w.heap.size)) b := by
              rw [mut_set hf1]
              rintro (hM | hM)
              · rcases hM with hM | ⟨j, hM⟩
                · rcases (he.lies id b hb).2 with h5 | h5
                  · have := (he.bad b hM).1; omega
                  · exact (he.bad b hM).2 h5
                · by_cases hj : j = id
                  · subst hj; rw [Loc.set_same] at hM; cases hM
                  · rw [Loc.set_other _ _ hj] at hM; exact hj (he.inj j id b hM hb)
              · omega
            have hpost := post_pushO (wr := false) (s := 1) (x := .mi es none) k1 k2 hf1 hpu ⟨b, ms, clk, #[], pushed_new hpu, (pushed_old hpu hlt).trans h1, hnm, ⟨by rw [List.filter_eq_self.2 (by simp)]; exact h2.kv, h2.pure, h2.nd, h2.old, fun p hp => by cases hp⟩⟩
            refine ⟨_, _, _, ?_, hpost.r, hpost.h, hpost.env, ?_, fun k h6 h7 => ?_, hpost.bad⟩
            · simp [Instr.range, run_underlying hd, newObj, Sem.run, refV, run_obj h1]
            · obtain ⟨C, h6, h7⟩ := hpost.ext
              exact ⟨_, ext_comp k3 h6 (h7 rfl), fun h8 => by cases h8⟩
            · refine hpost.fresh k ?_ h7
              by_cases hk : k = id
              · subst hk; rw [hb] at h6; cases h6
              · rw [Loc.set_other _ _ hk]; exact h6
        · exact hp.elim
      · exact hp.elim
    | _ => simp [hdd, bad] at hp

theorem next_post {w0 : World} {E : Nat → Prop} {w : World} {loc : Loc} {H : Heap} (he : Env w0 E w loc) (hh : HR w loc H) {nm : Nat} {ty : TypeId} {x : AV} {b : Bool} {v : Value} (hx : R w loc x v) (hp : (aNext x b H).p) :
    ∃ u w', (Instr.next v b ty).run P w = .ok u w' ∧ Post w0 E w loc true nm (aNext x b H).x (aNext x b H).H u w' loc := by
  unfold aNext at hp ⊢
  split at hp
  · rename_i id s i f
    split at hp
    · rename_i bs pos hl
      cases hx with
      | rf _ _ _ _ _ h =>
          obtain ⟨c, hc, rfl, hheap⟩ := at_thing hh h hl
          have hs : s ≠ 0 := by
            cases hd : decide (pos < bs.length) <;> (rw [hd] at hp; exact hp.2)
          rw [refV_ptr hs]
          have hheap : w.heap[c]? = some (.stringIter ⟨bs.toArray⟩ pos) := hheap
          have hlt : c < w.heap.size := (Array.getElem?_eq_some_iff.1 hheap).1
          have hget : (getObj c).run P w = .ok (.stringIter ⟨bs.toArray⟩ pos) w := by
            simp [getObj, Sem.run, hheap]
          have hsize : (ByteArray.mk bs.toArray).size = bs.length := by simp [ByteArray.size]
          cases hd : decide (pos < bs.length) with
          | false =>
            rw [hd] at hp
            simp only [cond_false] at hp ⊢
            obtain ⟨⟨rfl, rfl⟩, hs0⟩ := hp
            have hnlt : ¬ pos < bs.length := of_decide_eq_false hd
            refine ⟨.tuple #[.bool false], w, ?_, Post.pure ?_ hh he⟩
            · simp [Instr.next, hget, hsize, hnlt]
            · exact .tup [.w (.bool false)] [.bool false] rfl (fun j h1 h2 => by
                have : j = 0 := by simp at h1; omega
                subst this; exact .w _ rfl)
          | true =>
            rw [hd] at hp
            simp only [cond_true] at hp ⊢
            obtain ⟨⟨rfl, rfl⟩, hs0⟩ := hp
            have hplt : pos < bs.length := of_decide_eq_true hd
            refine ⟨.tuple #[.bool true, .int .i64 pos, .int .i32 (decR bs pos)], { w with heap := w.heap.setIfInBounds c (.stringIter ⟨bs.toArray⟩ (pos + decW bs pos)) }, ?_, put_thing (y := .it bs (pos + decW bs pos)) he hh hc hheap rfl ?_ ?_⟩
            · simp [Instr.next, hget, hsize, hplt, run_setObj hheap, goInt, decR, decW]
            · exact set_at hheap
            · intro w1 loc1
              exact .tup [.w (.bool true), .w (.int .i64 pos), .w (.int .i32 (decR bs pos))] [.bool true, .int .i64 pos, .int .i32 (decR bs pos)] rfl (fun j h1 h2 => by
                have : j = 0 ∨ j = 1 ∨ j = 2 := by simp at h1; omega
                rcases this with rfl | rfl | rfl <;> exact .w _ rfl)
    · exact hp.elim
  · rename_i id s i f
    split at hp
    · rename_i now hl
      obtain ⟨⟨rfl, rfl⟩, hs⟩ := hp
      cases hx with
      | rf _ _ _ _ _ h =>
        obtain ⟨c, hc, rfl, m, ms, clk, seen, h1, h2, h3, h4⟩ := at_thing hh h hl
        rw [refV_ptr hs, show 0 * s + 0 = 0 from by simp]
        have hL : (ms.filter fun e => !seen.contains e.born) = #[] := by
          have := h4.kv
          rw [List.map_nil, List.map_eq_nil_iff] at this
          rw [← Array.toList_inj, Array.toList_filter]; exact this
        refine ⟨.tuple #[.bool false], w, ?_, Post.pure ?_ hh he⟩
        · have g1 := run_obj (P := P) h1
          have g2 := run_obj (P := P) h2
          simp only [Instr.next, Sem.run_bind, g1, g2, Result.andThen_ok, next_test_false seen ms clk clk h4.old (Nat.le_refl _), Bool.false_eq_true, if_false, hL]
          simp [choose, Sem.run, Question.forced]
        · exact .tup [.w (.bool false)] [.bool false] rfl (fun j h5 h6 => by
            have : j = 0 := by simp at h5; omega
            subst this; exact .w _ rfl)
    · rename_i p now hl
      obtain ⟨⟨rfl, rfl⟩, hs⟩ := hp
      cases hx with
      | rf _ _ _ _ _ h =>
        obtain ⟨c, hc, rfl, m, ms, clk, seen, h1, h2, h3, h4⟩ := at_thing hh h hl
        rw [refV_ptr hs, show 0 * s + 0 = 0 from by simp]
        obtain ⟨e, hLl, hke⟩ : ∃ e, (ms.toList.filter fun e => !seen.contains e.born) = [e] ∧ kvOf e = pp p := by
          have := h4.kv
          rw [List.map_cons, List.map_nil] at this
          obtain ⟨e, l, h5, h6, h7⟩ := List.map_eq_cons_iff.1 this
          rw [List.map_eq_nil_iff] at h7; subst h7
          exact ⟨e, h5, h6⟩
        have hL : (ms.filter fun e => !seen.contains e.born) = #[e] := by
          rw [← Array.toList_inj, Array.toList_filter]; exact hLl
        have heL : e ∈ ms.toList.filter fun e => !seen.contains e.born := by rw [hLl]; simp
        have hem : e ∈ ms.toList := (List.mem_filter.1 heL).1
        have heb := h4.old e hem
        have hnb : ¬ clk ≤ e.born := by omega
        have hcm : m ≠ c := by rintro rfl; exact h3 (.inr ⟨id, hc⟩)
        refine ⟨.tuple #[.bool true, e.key, e.val], _, ?_, put_thing (ob' := .mapIter (some m) clk (seen.push e.born) clk) he hh hc h1 rfl ⟨m, ms, clk, _, set_at h1, ?_, h3, ?_⟩ ?_⟩
        · have g1 := run_obj (P := P) h1
          have g2 := run_obj (P := P) h2
          simp only [Instr.next, Sem.run_bind, g1, g2, Result.andThen_ok, next_test_false seen ms clk clk h4.old (Nat.le_refl _), Bool.false_eq_true, if_false, hL]
          simp [choose, Sem.run, Question.forced, heb, hnb, run_setObj h1]
        · simp only
          rw [Array.getElem?_setIfInBounds, if_neg (Ne.symm hcm)]; exact h2
        · refine ⟨?_, by intro q hq; simp at hq, h4.nd, h4.old, fun q hq => ?_⟩
          · have h5 : (ms.toList.filter fun x => !(seen.push e.born).contains x.born) = (ms.toList.filter fun x => !seen.contains x.born).filter fun x => !(x.born == e.born) := by
              rw [List.filter_filter]
              refine List.filter_congr fun x _ => ?_
              rw [contains_push, Bool.not_or, Bool.and_comm]
            rw [h5, hLl]; simp
          · injection hq with hq; subst hq
            have h6 := h4.pure p (by simp)
            exact ⟨h6, e, hem, by simp, hke⟩
        · have h6 := h4.pure p (by simp)
          have e1 : e.key = pv p.1 := congrArg Prod.fst hke
          have e2 : e.val = pv p.2 := congrArg Prod.snd hke
          intro w1 loc1
          rw [e1, e2]
          exact .tup [.w (.bool true), p.1, p.2] [.bool true, pv p.1, pv p.2] rfl (fun j h7 h8 => by
            have : j = 0 ∨ j = 1 ∨ j = 2 := by simp at h7; omega
            rcases this with rfl | rfl | rfl
            · exact .w _ rfl
            · exact pure_R (pureK_pure h6.1)
            · exact pure_R h6.2)
    · exact hp.elim
  · exact hp.elim

end ops
end Ax
end Go.Proofs.Ytbncglnlmcjplaa
