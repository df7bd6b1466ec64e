/- That what is said of abstract values holds of the model: append. -/
import Derived.Test.YtgkkgbomhfdbkaaAxN
namespace Go.Proofs.Ytgkkgbomhfdbkaa
namespace Ax
set_option linter.unusedSimpArgs false
set_option linter.unusedVariables false
section ops
variable {P : Program}

/-- What append is to add: so many elements, these cells. -/
structure Src (P : Program) (w : World) (loc : Loc) (v : Value) (m s : Nat) (fl : List AV) : Prop where
  src : ∃ cs : List Value, cs.length = m * s ∧ CellsOf w loc fl cs ∧ (∀ w, (Builtin.lenOf v).run P w = .ok m w) ∧ (∀ w', w'.heap = w.heap → (Builtin.firstCells s m v).run P w' = .ok cs.toArray w')

theorem run_loads {w : World} {b o : Nat} {cs : List Value} (hc : ∀ (j : Nat) (hj : j < cs.length), w.cell? ⟨b, o + j, none⟩ = some cs[j]) : (loadCells ⟨b, o, none⟩ cs.length).run P w = .ok cs.toArray w := by
  refine run_loadCells_list (P := P) w ⟨b, o, none⟩ cs fun j v hv => ?_
  obtain ⟨hj, rfl⟩ := List.getElem?_eq_some_iff.1 hv
  rw [addr_add]; exact hc j hj

theorem cell_heap {w w' : World} (h : w'.heap = w.heap) (a : Addr) : w'.cell? a = w.cell? a := by simp [World.cell?, h]

theorem src_seen {w : World} {loc : Loc} {v : Value} {m s : Nat} {fl : List AV} (h : Seen w loc v m s fl) : Src P w loc v m s fl := by
  obtain ⟨a, cap, rfl, _, _, h0 | ⟨b, o, cs, rfl, _, hcl, hc, hco⟩⟩ := h.seen
  · subst h0
    have hfl : fl = [] := by have := h.len; simp at this; exact this
    subst hfl
    refine ⟨[], by simp, ⟨rfl, by simp, by simp⟩, fun w => by simp [Builtin.lenOf], fun w' _ => ?_⟩
    cases a <;> simp [Builtin.firstCells, loadCells, loadCellsFrom]
  · refine ⟨cs, hcl, hco, fun w => by simp [Builtin.lenOf], fun w' hw => ?_⟩
    simp only [Builtin.firstCells]
    rw [← hcl]
    exact run_loads fun j hj => (cell_heap hw _).trans (hc j hj)

theorem src_string {w : World} {loc : Loc} (bs : List UInt8) : Src P w loc (.string ⟨bs.toArray⟩) bs.length 1 (bs.map fun b => .w (byte b)) := by
  refine ⟨bs.map byte, by simp, bytes_cellsOf bs, fun w => by simp [Builtin.lenOf, ByteArray.size], fun w' _ => ?_⟩
  simp only [Builtin.firstCells, Sem.run_pure]
  congr 1
  rw [ByteArray.extract_mk]
  simp [byte]

theorem grow_le : ∀ (r c L newLen : Nat), c ≤ L → Builtin.growBy newLen r c ≤ (L + 768) * 2 ^ r
  | 0, c, L, n, h => by simp [Builtin.growBy]; omega
  | r + 1, c, L, n, h => by
    unfold Builtin.growBy
    split
    · have : 1 ≤ 2 ^ (r + 1) := Nat.one_le_two_pow
      have := Nat.mul_le_mul_left (L + 768) this
      omega
    · have h1 := grow_le r (c + (c + 768) / 4) (L + (L + 768) / 4) n (by omega)
      have h2 : L + (L + 768) / 4 + 768 ≤ (L + 768) * 2 := by omega
      have h3 := Nat.mul_le_mul_right (2 ^ r) h2
      rw [Nat.pow_succ]
      have h4 : (L + 768) * 2 * 2 ^ r = (L + 768) * (2 ^ r * 2) := by rw [Nat.mul_assoc, Nat.mul_comm 2 (2 ^ r)]
      omega

theorem next_le {need cap : Nat} (h : need ≤ 4294967296) (hc : cap ≤ need) : Builtin.nextslicecap need cap ≤ (4294967296 + 768) * 16 := by
  unfold Builtin.nextslicecap
  split
  · omega
  · split
    · omega
    · exact grow_le 4 cap 4294967296 need (by omega)

/-- Appending where there is no room. -/
theorem run_append_new {t u : TypeId} {ty : TypeId} {e : TypeId} {te : TyI} {du : TypeDesc} (hd : P.underlying t = some (.slice e)) (hty : TyR P e te) (hu : P.underlying u = some du) (hdu : ∀ k, du ≠ .int k) {w : World} {loc : Loc} {a : Option Addr} {n cap m : Nat} {vx : Value} {fx : List AV} {cd : List Value}
    (hb : te.bytes ≤ 1024) (hx : Src P w loc vx m te.size fx) (hcd : cd.length = n * te.size) (hold : ∀ w', w'.heap = w.heap → (Builtin.firstCells te.size n (.slice a n cap)).run P w' = .ok cd.toArray w') (hn : n + m ≤ 4294967296) (hcap : n ≤ cap) (hno : cap < n + m) :
    ∃ (cs : List Value) (newCap : Nat) (rest : Array Value) (w' : World), CellsOf w loc fx cs ∧ cs.length = m * te.size ∧ n + m ≤ newCap ∧ newCap ≤ maxLen ∧ (∀ (j : Nat) (h : j < rest.size), one rest[j] = true) ∧ (cd.toArray ++ cs.toArray ++ rest).size = newCap * te.size ∧
      Pushed w w' (.cells (cd.toArray ++ cs.toArray ++ rest) e) ∧ (Builtin.append_ #[t, u] ty #[.slice a n cap, vx]).run P w = .ok (.slice (some ⟨w.heap.size, 0, none⟩) (n + m) newCap) w' := by
  obtain ⟨cs, h1, h2, h3, h4⟩ := hx.src
  obtain ⟨inf, zz, i1, i2, i3, i4, _⟩ := hty.info
  obtain ⟨z, z1, z2, z3⟩ := run_zeroValue' hty { w with drawn := w.drawn + 1 }
  have hsz := run_sizeOf' hty w
  have hlim : ¬ Builtin.nextslicecap (n + m) cap * te.bytes > 2 ^ 48 := by
    have a1 := next_le hn (by omega : cap ≤ n + m)
    have a2 : Builtin.nextslicecap (n + m) cap * te.bytes ≤ (4294967296 + 768) * 16 * 1024 := Nat.mul_le_mul a1 hb
    omega
  have hmatch : (match du with | .int _ => true | _ => false) = false := by
    cases du <;> first | rfl | exact (hdu _ rfl).elim
  obtain ⟨newCap, hc1, hc2, hrun⟩ : ∃ c, n + m ≤ c ∧ c ≤ maxLen ∧ (choose (.appendCap (n + m) cap e)).run P w = .ok c { w with drawn := w.drawn + 1 } := by
    refine ⟨n + m + w.tape w.drawn (.appendCap (n + m) cap e) % (2 ^ 63 - (n + m)), by omega, ?_, by simp [choose, Sem.run, Question.forced, Question.cut]⟩
    have := Nat.mod_lt (w.tape w.drawn (.appendCap (n + m) cap e)) (show 0 < 2 ^ 63 - (n + m) by omega)
    unfold maxLen; omega
  have hzs : z.cells.size = te.size := by simpa using z2
  have hroom : ∀ (k : Nat) (W : World), (askRoom k).run P W = .ok () W := fun k W => by
    unfold askRoom; split <;> rfl
  refine ⟨cs, newCap, Builtin.zeroCells z.cells (newCap - (n + m)), { w with drawn := w.drawn + 1, heap := w.heap.push (.cells (cd.toArray ++ cs.toArray ++ Builtin.zeroCells z.cells (newCap - (n + m))) e) }, h2, h1, hc1, hc2, ?_, ?_, ⟨rfl, rfl, rfl, rfl⟩, ?_⟩
  · intro j hj
    have hz0 : 0 < z.cells.size := by
      rcases Nat.eq_zero_or_pos z.cells.size with h | h
      · simp [Builtin.zeroCells, h] at hj
      · exact h
    simp only [Builtin.zeroCells, Array.getElem_map, Array.getElem_range]
    rw [getElem!_pos z.cells _ (Nat.mod_lt _ hz0)]
    exact cell_one (z3 w loc).1 _ (Nat.mod_lt _ hz0)
  · have hsub : newCap * te.size = n * te.size + m * te.size + (newCap - (n + m)) * te.size := by
      rw [← Nat.add_mul, ← Nat.add_mul]; congr 1; omega
    simp [Builtin.zeroCells, hcd, h1, hzs]; omega
  · have hno' : ¬ n + m ≤ cap := by omega
    have h63 : ¬ (((n + m : Nat) : Int) > IntKind.i64.max ∧ te.bytes = 0) := by
      have : IntKind.i64.max = 9223372036854775807 := by decide
      rw [this]; omega
    unfold Builtin.append_
    simp only [List.getElem?_toArray, List.getElem?_cons_zero, List.getElem?_cons_succ, Sem.run_bind, run_underlying hd, run_underlying hu, Result.andThen_ok, hsz, Sem.run_pure, hmatch, Bool.false_eq_true, if_false, h3, if_neg hno', run_typeInfo' i1, i3, false_or, if_neg h63, if_neg hlim, hrun, hroom, hold _ rfl, h4 _ rfl, z1, Bool.not_false, if_true, not_false_eq_true]
    rw [hold { w with drawn := w.drawn + 1 } rfl]
    simp only [Result.andThen_ok, h4 { w with drawn := w.drawn + 1 } rfl, z1]
    rfl

/-- Appending where there is room. -/
theorem run_append_in {t u : TypeId} {ty : TypeId} {e : TypeId} {te : TyI} {du : TypeDesc} (hd : P.underlying t = some (.slice e)) (hty : TyR P e te) (hu : P.underlying u = some du) (hdu : ∀ k, du ≠ .int k) {w w' : World} {a : Option Addr} {n cap m : Nat} {vx : Value} {cs : List Value}
    (h3 : (Builtin.lenOf vx).run P w = .ok m w) (h4 : (Builtin.firstCells te.size m vx).run P w = .ok cs.toArray w) (hroom : n + m ≤ cap)
    (hst : match a with | some a => (storeCells (a.add (n * te.size)) cs).run P w = .ok () w' | none => w' = w) :
    (Builtin.append_ #[t, u] ty #[.slice a n cap, vx]).run P w = .ok (.slice a (n + m) cap) w' := by
  have hsz := run_sizeOf' hty w
  have hmatch : (match du with | .int _ => true | _ => false) = false := by
    cases du <;> first | rfl | exact (hdu _ rfl).elim
  unfold Builtin.append_
  simp only [List.getElem?_toArray, List.getElem?_cons_zero, List.getElem?_cons_succ, Sem.run_bind, run_underlying hd, run_underlying hu, Result.andThen_ok, hsz, Sem.run_pure, hmatch, Bool.false_eq_true, if_false, h3, if_pos hroom, h4, Bool.not_false, if_true]
  cases a with
  | none => simp only at hst; subst hst; simp
  | some a => simp only at hst; simp [hst]

/-- A slice that is grown: what becomes of it. -/
theorem grow_new {w0 : World} {E : Nat → Prop} {w : World} {loc : Loc} {H : Heap} (he : Env w0 E w loc) (hh : HR w loc H) {nm : Nat} (hf : loc.m nm = .free)
    {t u : TypeId} {ty : TypeId} {e : TypeId} {te : TyI} {du : TypeDesc} (hd : P.underlying t = some (.slice e)) (hty : TyR P e te) (hu : P.underlying u = some du) (hdu : ∀ k, du ≠ .int k) {a : Option Addr} {n cap m : Nat} {vx : Value} {fd fx : List AV}
    (hb : te.bytes ≤ 1024) (hx : Src P w loc vx m te.size fx) (hv : Seen w loc (.slice a n cap) n te.size fd) (hn : n + m ≤ 4294967296) (hno : cap < n + m) {blk : Blk} (hok : blk.ok) (hflat : blk.flat = fd ++ fx) (hs : blk.size = te.size) (hlen : blk.len = n + m) (wr : Bool) :
    ∃ u' w' loc', (Builtin.append_ #[t, u] ty #[.slice a n cap, vx]).run P w = .ok u' w' ∧ Post w0 E w loc wr nm (.ms nm te.size 0 (n + m)) (put H nm blk) u' w' loc' := by
  have hvs := src_seen (P := P) hv
  obtain ⟨cd, d1, d2, d3, d4⟩ := hvs.src
  obtain ⟨a', cap', hae, hnc, hct, _⟩ := hv.seen
  injection hae with _ _ hcc; subst hcc
  obtain ⟨cs, newCap, rest, w', c1, c2, c3, c4, c5, c6, c7, c8⟩ := run_append_new (P := P) (ty := ty) hd hty hu hdu hb hx d1 d4 hn hnc hno
  have hfl := flat_len hok
  have hco : CellsOf w loc (fd ++ fx) (cd ++ cs) := by
    refine ⟨by simp [d2.len, c1.len], fun j hj => ?_, fun j h1 h2 => ?_⟩
    · by_cases hc : j < fd.length
      · rw [List.getElem_append_left hc]; exact d2.leaf j hc
      · rw [List.getElem_append_right (by omega)]; exact c1.leaf _ _
    · have hl := d2.len
      by_cases hc : j < fd.length
      · rw [List.getElem_append_left hc, List.getElem_append_left (by omega)]; exact d2.r j hc _
      · rw [List.getElem_append_right (by omega), List.getElem_append_right (by omega)]
        have := c1.r (j - fd.length) (by simp at h1; omega) (by simp at h2; omega)
        simpa [hl] using this
  rw [← hflat] at hco
  have hcl := hco.len
  have hpost : Post w0 E w loc wr nm (.ms nm te.size 0 (n + m)) (put H nm blk) (.slice (some ⟨w.heap.size, 0, none⟩) (n + m) newCap) w' (loc.set nm (.here w.heap.size)) := by
    refine post_push (e := e) (fz := (0, 0)) he hh hf c7 hok (.inl rfl) (fun j hj => ?_) ?_ (fun j h1 h2 => ?_) (fun w' loc' h6 h7 => owns_new h6 h7 (by rw [c6]; exact Nat.le_refl _) c3 c4)
    · by_cases hc : j < (cd.toArray ++ cs.toArray).size
      · rw [Array.getElem_append_left hc]
        have : (cd.toArray ++ cs.toArray)[j] = (cd ++ cs)[j]'(by simpa using hc) := by simp [List.append_toArray]
        rw [this]; exact hco.one _ (List.getElem_mem _)
      · rw [Array.getElem_append_right (by omega)]; exact c5 _ _
    · simp at hcl ⊢; omega
    · have hc : j < (cd.toArray ++ cs.toArray).size := by simp at hcl ⊢; omega
      rw [Array.getElem_append_left hc]
      have : (cd.toArray ++ cs.toArray)[j] = (cd ++ cs)[j]'(by simpa using hc) := by simp [List.append_toArray]
      rw [this]
      exact ⟨hco.leaf j h1, hco.r j h1 _⟩
  exact ⟨_, w', _, c8, hpost⟩

/-- An empty slice takes a name. -/
theorem post_nil {w0 : World} {E : Nat → Prop} {w : World} {loc : Loc} {H : Heap} (he : Env w0 E w loc) (hh : HR w loc H) {nm s : Nat} (hf : loc.m nm = .free) {blk : Blk} (hok : blk.ok) (hl : blk.len = 0) (a : Option Addr) (wr : Bool) :
    Post w0 E w loc wr nm (.ms nm s 0 0) (put H nm blk) (.slice a 0 0) w (loc.set nm .nil) := by
  have hm : ∀ b, Mut (loc.set nm .nil) b → Mut loc b := by
    rintro b (h | ⟨k, h⟩)
    · exact .inl h
    · by_cases hk : k = nm
      · subst hk; rw [Loc.set_same] at h; cases h
      · rw [Loc.set_other _ _ hk] at h; exact .inr ⟨k, h⟩
  have hext : Ext (fun _ => False) w loc w (loc.set nm .nil) :=
    ⟨Nat.le_refl _, fun id h1 _ => Loc.set_other _ _ (fun e => h1 (e ▸ hf)), fun _ _ h => h.elim, fun b _ h => ⟨rfl, fun h' => h (hm b h')⟩, fun _ _ _ _ => rfl, fun _ _ cur _ fz _ h => ⟨cur, fz, h, rfl⟩⟩
  refine ⟨.ms _ _ _ _ _ ?_, ?_, ⟨he.os, he.tape, he.output, he.size, he.same, ?_, ?_, he.bad⟩, ⟨_, hext, fun _ _ h => h⟩, ?_, rfl⟩
  · unfold Owns; rw [Loc.set_same]; exact ⟨rfl, a, rfl⟩
  · intro id b hb
    rw [look_put] at hb
    split at hb
    · rename_i hi; subst hi
      injection hb with hb; subst hb
      unfold BlkR
      rw [Loc.set_same]
      exact ⟨hok, hl⟩
    · rename_i hi
      by_cases hfr : loc.m id = .free
      · exact BlkR.free (by rw [Loc.set_other _ _ (Ne.symm hi)]; exact hfr)
      · exact (hh id b hb).ext hext (fun h => h) hfr
  · intro i j b hi hj
    by_cases h1 : i = nm
    · subst h1; rw [Loc.set_same] at hi; cases hi
    · by_cases h2 : j = nm
      · subst h2; rw [Loc.set_same] at hj; cases hj
      · rw [Loc.set_other _ _ h1] at hi; rw [Loc.set_other _ _ h2] at hj; exact he.inj i j b hi hj
  · intro i b hi
    by_cases h1 : i = nm
    · subst h1; rw [Loc.set_same] at hi; cases hi
    · rw [Loc.set_other _ _ h1] at hi; exact he.lies i b hi
  · intro id h1 h2
    by_cases hi : id = nm
    · omega
    · rw [Loc.set_other _ _ hi] at h2; exact (h2 h1).elim

theorem hr_drop {w : World} {loc : Loc} {H : Heap} (hh : HR w loc H) (id : Nat) : HR w loc (drop H id) := by
  intro k b hk
  rw [look_drop] at hk
  split at hk
  · cases hk
  · exact hh k b hk

/-- Grown in place: the block takes the new name. -/
theorem grow_in {w0 : World} {E : Nat → Prop} {w w' : World} {loc : Loc} {H : Heap} (he : Env w0 E w loc) (hh : HR w loc H) {nm id : Nat} (hf : loc.m nm = .free) {b s n m cap o : Nat} {blk blk' : Blk} {cur cur' : Array Value} {e : TypeId} {fz : Nat × Nat} {fx : List AV} {cs : List Value}
    (hb : loc.m id = .here b) (hw : w.heap[b]? = some (.cells cur e fz)) (hlies : Lies w loc blk b) (hok : blk'.ok) (hflat : blk'.flat = blk.flat ++ fx) (hfn : blk.flat.length = n * s) (hco : CellsOf w loc fx cs) (hcm : cs.length = m * s)
    (hw' : w'.heap[b]? = some (.cells cur' e fz)) (hsz : cur'.size = cur.size) (hoth : ∀ c, c ≠ b → w'.heap[c]? = w.heap[c]?) (hsize : w'.heap.size = w.heap.size) (h1 : w'.os = w.os) (h2 : w'.tape = w.tape) (h3 : w'.output = w.output)
    (hcell : ∀ j, j < cur.size → cur'[j]? = if n * s ≤ j ∧ j < n * s + cs.length then cs[j - n * s]? else cur[j]?) (hroom : n * s + m * s ≤ cur.size)
    (ho : 0 < cap → o = 0) (hcap : cap * s ≤ cur.size) (hn : n + m ≤ cap) (ht : cap ≤ maxLen) :
    Post w0 E w loc true nm (.ms nm s 0 (n + m)) (put (drop H id) nm blk') (.slice (some ⟨b, o, none⟩) (n + m) cap) w' ((loc.set id .dead).set nm (.here b)) := by
  have hne : nm ≠ id := by intro h; subst h; rw [hf] at hb; cases hb
  have hl' : ∀ k, k ≠ nm → k ≠ id → ((loc.set id .dead).set nm (.here b)).m k = loc.m k := fun k a c => by rw [Loc.set_other _ _ a, Loc.set_other _ _ c]
  have hld : ((loc.set id .dead).set nm (.here b)).m id = .dead := by rw [Loc.set_other _ _ (Ne.symm hne), Loc.set_same]
  have hln : ((loc.set id .dead).set nm (.here b)).m nm = .here b := Loc.set_same _ _ _
  generalize hloc' : (loc.set id .dead).set nm (.here b) = loc' at *
  have hbad : loc'.bad = loc.bad := by rw [← hloc']; rfl
  have hM : ∀ c, Mut loc' c → Mut loc c := by
    rintro c (h | ⟨k, h⟩)
    · exact .inl (by rw [hbad] at h; exact h)
    · by_cases a1 : k = nm
      · subst a1; rw [hln] at h; injection h with h; subst h; exact .inr ⟨id, hb⟩
      · by_cases a2 : k = id
        · subst a2; rw [hld] at h; cases h
        · rw [hl' k a1 a2] at h; exact .inr ⟨k, h⟩
  have hext : Ext (fun k => k = id) w loc w' loc' := by
    refine ⟨by omega, fun k hk hC => ?_, fun k hk hC => ?_, fun c hc hm => ⟨hoth c ?_, fun h => hm (hM c h)⟩, fun k c hk hC => hoth c ?_, fun k c cur1 e1 fz1 hk hc1 => ?_⟩
    · exact hl' k (fun h => hk (h ▸ hf)) hC
    · subst hC; exact .inr hld
    · intro hcb; subst hcb; exact hm (.inr ⟨id, hb⟩)
    · intro hcb; subst hcb; exact hC (he.inj k id c hk hb)
    · by_cases hcb : c = b
      · subst hcb
        rw [hw] at hc1; injection hc1 with hc1; injection hc1 with h4 h5 h6; subst h4 h5 h6
        exact ⟨cur', fz, hw', hsz⟩
      · exact ⟨cur1, fz1, (hoth c hcb).trans hc1, rfl⟩
  obtain ⟨cur0, e0, fz0, hh0, hfz, hone, hlen, hr⟩ := hlies.lies
  rw [hw] at hh0; injection hh0 with hh0; injection hh0 with q1 q2 q3; subst q1 q2 q3
  have hxl := hco.len
  refine ⟨.ms _ _ _ _ _ ?_, ?_, ⟨h1.trans he.os, h2.trans he.tape, h3.trans he.output, by have := he.size; omega, fun c hc hE => ?_, ?_, ?_, by rw [hbad]; exact he.bad⟩, ⟨_, hext, fun h => by cases h⟩, ?_, hbad⟩
  · unfold Owns; rw [hln]
    exact ⟨o, cap, cur', e, fz, rfl, fun h => by rw [ho h]; simp, hw', by rw [hsz]; simpa using hcap, hn, ht⟩
  · intro k bl hk
    rw [look_put] at hk
    split at hk
    · rename_i hi; subst hi
      injection hk with hk; subst hk
      unfold BlkR
      rw [hln]
      refine ⟨hok, ⟨cur', e, fz, hw', by rw [hsz]; exact hfz, fun j hj => ?_, by rw [hflat, hsz]; simp; omega, fun j a c => ?_⟩⟩
      · have h9 := hcell j (by omega)
        rw [Array.getElem?_eq_getElem hj] at h9
        split at h9
        · rw [List.getElem?_eq_getElem (by omega)] at h9
          injection h9 with h9; rw [h9]; exact hco.one _ (List.getElem_mem _)
        · rw [Array.getElem?_eq_getElem (by omega)] at h9
          injection h9 with h9; rw [h9]; exact hone j _
      · have h9 := hcell j (by omega)
        rw [Array.getElem?_eq_getElem c] at h9
        have hg : blk'.flat[j] = (blk.flat ++ fx)[j]'(by rw [← hflat]; exact a) := by congr 1
        rw [hg]
        rw [hflat] at a; simp at a
        by_cases hc : j < blk.flat.length
        · rw [if_neg (by omega), Array.getElem?_eq_getElem (by omega)] at h9
          injection h9 with h9
          rw [List.getElem_append_left hc, h9]
          exact ⟨(hr j hc (by omega)).1, (hr j hc (by omega)).2.ext hext⟩
        · rw [if_pos (by omega), List.getElem?_eq_getElem (by omega)] at h9
          injection h9 with h9
          rw [List.getElem_append_right (by omega), h9]
          refine ⟨hco.leaf _ (by omega), ?_⟩
          have := (hco.r (j - blk.flat.length) (by omega) (by omega)).ext hext
          simpa [hfn] using this
    · rename_i hi
      rw [look_drop] at hk
      split at hk
      · cases hk
      · rename_i hi2
        by_cases hfr : loc.m k = .free
        · exact BlkR.free (by rw [hl' k (Ne.symm hi) (Ne.symm hi2)]; exact hfr)
        · exact (hh k bl hk).ext hext (Ne.symm hi2) hfr
  · rw [hoth c ?_]
    · exact he.same c hc hE
    · intro hcb; subst hcb
      rcases (he.lies id c hb).2 with h | h
      · omega
      · exact hE h
  · intro i j c hi hj
    by_cases a1 : i = nm
    · by_cases a2 : j = nm
      · rw [a1, a2]
      · subst a1
        rw [hln] at hi; injection hi with hi; subst hi
        by_cases a3 : j = id
        · subst a3; rw [hld] at hj; cases hj
        · rw [hl' j a2 a3] at hj; exact (a3 (he.inj j id b hj hb)).elim
    · by_cases a2 : j = nm
      · subst a2
        rw [hln] at hj; injection hj with hj; subst hj
        by_cases a3 : i = id
        · subst a3; rw [hld] at hi; cases hi
        · rw [hl' i a1 a3] at hi; exact (a3 (he.inj i id b hi hb)).elim
      · by_cases a3 : i = id
        · subst a3; rw [hld] at hi; cases hi
        · by_cases a4 : j = id
          · subst a4; rw [hld] at hj; cases hj
          · rw [hl' i a1 a3] at hi; rw [hl' j a2 a4] at hj; exact he.inj i j c hi hj
  · intro i c hi
    by_cases a1 : i = nm
    · subst a1; rw [hln] at hi; injection hi with hi; subst hi
      have := he.lies id b hb; exact ⟨by omega, this.2⟩
    · by_cases a2 : i = id
      · subst a2; rw [hld] at hi; cases hi
      · rw [hl' i a1 a2] at hi; have := he.lies i c hi; exact ⟨by omega, this.2⟩
  · intro k a1 a2
    by_cases a3 : k = nm
    · omega
    · by_cases a4 : k = id
      · subst a4; rw [hb] at a1; cases a1
      · rw [hl' k a3 a4] at a2; exact (a2 a1).elim

/-- Append upon a slice of the call's own. -/
theorem grow_ms {w0 : World} {E : Nat → Prop} {w : World} {loc : Loc} {H : Heap} (he : Env w0 E w loc) (hh : HR w loc H) {nm id : Nat} (hf : loc.m nm = .free)
    {t u : TypeId} {ty : TypeId} {e : TypeId} {te : TyI} {du : TypeDesc} (hd : P.underlying t = some (.slice e)) (hty : TyR P e te) (hu : P.underlying u = some du) (hdu : ∀ k, du ≠ .int k) {n m : Nat} {v vx : Value} {fx : List AV}
    (hb : te.bytes ≤ 1024) (hx : Src P w loc vx m te.size fx) {blk blk' : Blk} (hl : look H id = some blk) (hv : Owns w loc id te.size 0 n v) (hnl : n = blk.len) (hs : blk.size = te.size) (hn : n + m ≤ 4294967296)
    (hok : blk'.ok) (hflat : blk'.flat = blk.flat ++ fx) (hs' : blk'.size = te.size) (hlen : blk'.len = n + m) :
    ∃ u' w' loc', (Builtin.append_ #[t, u] ty #[v, vx]).run P w = .ok u' w' ∧ Post w0 E w loc true nm (.ms nm te.size 0 (n + m)) (put (drop H id) nm blk') u' w' loc' := by
  have hfr : loc.m id ≠ .free := by intro e; simp [Owns, e] at hv
  have hseen := seen_ms hh hv hl hs (by omega)
  obtain ⟨hbok, hnil | ⟨b, hbb, hlies⟩⟩ := hh.get hl hfr
  · have hfl : blk.flat = [] := List.length_eq_zero_iff.1 (by rw [flat_len hbok, hnil.2]; simp)
    have h0 : n = 0 := by omega
    subst h0
    unfold Owns at hv; rw [hnil.1] at hv
    obtain ⟨_, a, rfl⟩ := hv
    by_cases hm : m = 0
    · subst hm
      obtain ⟨cs, c1, c2, c3, c4⟩ := hx.src
      have hcs : cs = [] := List.length_eq_zero_iff.1 (by rw [c1]; simp)
      subst hcs
      refine ⟨_, w, _, run_append_in (P := P) (ty := ty) hd hty hu hdu (a := a) (n := 0) (cap := 0) (c3 w) (c4 w rfl) (Nat.le_refl _) ?_, post_nil he (hr_drop hh id) hf hok (by omega) a true⟩
      cases a <;> rfl
    · rw [hfl, List.nil_append] at hflat
      refine grow_new (P := P) (fd := []) he (hr_drop hh id) hf hd hty hu hdu hb hx ⟨⟨a, 0, rfl, Nat.le_refl _, Nat.zero_le _, .inl rfl⟩, by simp⟩ hn (by omega) hok (by simpa using hflat) hs' hlen true
  · have hv2 := hv
    unfold Owns at hv; rw [hbb] at hv
    obtain ⟨o, cap, cur, e0, fz, rfl, ho, hheap, hsz, hnc, htop⟩ := hv
    have hfull : (blk.flat.drop (0 * te.size)).take (n * te.size) = blk.flat := by
      rw [Nat.zero_mul, List.drop_zero, List.take_of_length_le (by rw [flat_len hbok, hs, hnl]; exact Nat.le_refl _)]
    rw [hfull] at hseen
    by_cases hroom : n + m ≤ cap
    · obtain ⟨cs, c1, c2, c3, c4⟩ := hx.src
      obtain ⟨cur0, e1, fz0, hh0, hfz, hone, hlen0, hr⟩ := hlies.lies
      have hh1 := hh0
      rw [hheap] at hh0; injection hh0 with hh0; injection hh0 with q1 q2 q3; subst q1 q2 q3
      have hmul : n * te.size + m * te.size ≤ cap * te.size := by rw [← Nat.add_mul]; exact Nat.mul_le_mul_right _ hroom
      by_cases hc0 : cap = 0
      · have hn0 : n = 0 := by omega
        have hm0 : m = 0 := by omega
        subst hn0 hm0 hc0
        have hcs : cs = [] := List.length_eq_zero_iff.1 (by rw [c1]; simp)
        subst hcs
        refine ⟨_, w, _, run_append_in (P := P) (ty := ty) hd hty hu hdu (a := some ⟨b, o, none⟩) (n := 0) (cap := 0) (c3 w) (c4 w rfl) (Nat.le_refl _) rfl, grow_in he hh hf hbb hheap hlies hok hflat (by rw [flat_len hbok, hs, ← hnl]) c2 c1 hheap rfl (fun _ _ => rfl) rfl rfl rfl rfl (fun j _ => by rw [if_neg (by simp)]) (by simp) (by simp) (by simp) (Nat.le_refl _) htop⟩
      · have ho := ho (by omega)
        rw [Nat.zero_mul] at ho
        subst ho
        rw [Nat.zero_add] at hsz
        obtain ⟨w', cur', r1, r2, r3, r4, r5, r6, r7, r8, r9⟩ := run_storeCells' (P := P) b (n * te.size) e0 fz cs 0 cur w hheap (fz_free hfz) (by omega) c2.one
        refine ⟨_, w', _, run_append_in (P := P) (ty := ty) hd hty hu hdu (a := some ⟨b, 0, none⟩) (n := n) (cap := cap) (c3 w) (c4 w rfl) hroom (by simp only [addr_add, Nat.zero_add]; exact r1), grow_in he hh hf hbb hheap hlies hok hflat (by rw [flat_len hbok, hs, ← hnl]) c2 c1 r2 r3 r4 r5 r6 r7 r8 (by simpa using r9) (by omega) (fun _ => rfl) hsz hroom htop⟩
    · exact grow_new (P := P) he (hr_drop hh id) hf hd hty hu hdu hb hx hseen hn (by omega) hok hflat hs' hlen true

/-- Append upon a slice that has no room. -/
theorem grow_full {w0 : World} {E : Nat → Prop} {w : World} {loc : Loc} {H : Heap} (he : Env w0 E w loc) (hh : HR w loc H) {nm : Nat} (hf : loc.m nm = .free)
    {t u : TypeId} {ty : TypeId} {e : TypeId} {te : TyI} {du : TypeDesc} (hd : P.underlying t = some (.slice e)) (hty : TyR P e te) (hu : P.underlying u = some du) (hdu : ∀ k, du ≠ .int k) {a : Option Addr} {n m : Nat} {vx : Value} {fd fx : List AV}
    (hb : te.bytes ≤ 1024) (hx : Src P w loc vx m te.size fx) (hv : Seen w loc (.slice a n n) n te.size fd) (hnm : n = 0 ∨ 0 < m) (hn : n + m ≤ 4294967296) {blk : Blk} (hok : blk.ok) (hflat : blk.flat = fd ++ fx) (hs : blk.size = te.size) (hlen : blk.len = n + m) :
    ∃ u' w' loc', (Builtin.append_ #[t, u] ty #[.slice a n n, vx]).run P w = .ok u' w' ∧ Post w0 E w loc true nm (.ms nm te.size 0 (n + m)) (put H nm blk) u' w' loc' := by
  by_cases hm : m = 0
  · have h0 : n = 0 := by omega
    subst h0 hm
    obtain ⟨cs, c1, c2, c3, c4⟩ := hx.src
    have hcs : cs = [] := List.length_eq_zero_iff.1 (by rw [c1]; simp)
    subst hcs
    refine ⟨_, w, _, run_append_in (P := P) (ty := ty) hd hty hu hdu (a := a) (n := 0) (cap := 0) (c3 w) (c4 w rfl) (Nat.le_refl _) ?_, post_nil he hh hf hok hlen a true⟩
    cases a <;> rfl
  · exact grow_new (P := P) he hh hf hd hty hu hdu hb hx hv hn (by omega) hok hflat hs hlen true

end ops
end Ax
end Go.Proofs.Ytgkkgbomhfdbkaa
