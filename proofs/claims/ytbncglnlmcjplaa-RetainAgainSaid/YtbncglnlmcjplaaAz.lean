/- Any plain argument, read as data, is told as an abstract value. -/
import Derived.Test.YtbncglnlmcjplaaAy
import Derived.OpenShut
namespace Go.Proofs.Ytbncglnlmcjplaa
namespace Ax
open Go.RowKit Go.ChangeShapes Go.WideShapes
set_option linter.unusedSimpArgs false
set_option linter.unusedVariables false

/-- Leaves and the cells that they tell. -/
def RC (w : World) : List AV → List Value → Prop
  | [], [] => True
  | x :: xs, v :: vs => (x.leaf = true ∧ x.closed = true ∧ R w loc0 x v) ∧ RC w xs vs
  | _, _ => False

theorem RC.len {w : World} : ∀ {xs : List AV} {vs : List Value}, RC w xs vs → xs.length = vs.length
  | [], [], _ => rfl
  | x :: xs, v :: vs, h => by simp [RC.len h.2]
  | [], _ :: _, h => h.elim
  | _ :: _, [], h => h.elim

theorem RC.get {w : World} : ∀ {xs : List AV} {vs : List Value}, RC w xs vs → ∀ (j : Nat) (h : j < xs.length) (h' : j < vs.length), xs[j].leaf = true ∧ xs[j].closed = true ∧ R w loc0 xs[j] vs[j]
  | x :: xs, v :: vs, h, j, a, b => by
    cases j with
    | zero => exact h.1
    | succ j => exact RC.get h.2 j (by simpa using a) (by simpa using b)
  | [], [], _, j, a, _ => by simp at a
  | [], _ :: _, h, _, _, _ => h.elim
  | _ :: _, [], h, _, _, _ => h.elim

theorem RC.append {w : World} : ∀ {xs ys : List AV} {vs us : List Value}, RC w xs vs → RC w ys us → RC w (xs ++ ys) (vs ++ us)
  | [], ys, [], us, _, h => h
  | x :: xs, ys, v :: vs, us, h, k => ⟨h.1, RC.append h.2 k⟩
  | [], _, _ :: _, _, h, _ => h.elim
  | _ :: _, _, [], _, h, _ => h.elim

def isFlatI : TD → Nat
  | .int .u8 => 1
  | .int .i64 => 2
  | _ => 0

def ShapeF (S : TypeId → List AV → Prop) : List (Nat × TypeId) → List AV → Prop
  | [], ls => ls = []
  | p :: r, ls => ∃ l1 l2, ls = l1 ++ l2 ∧ S p.2 l1 ∧ ShapeF S r l2

/-- What the leaves of a value of a type are. -/
def Shape (T : Types) : Nat → TypeId → List AV → Prop
  | 0, _, _ => False
  | n + 1, t, ls => match T t with
    | none => False
    | some i => match i.d with
      | .int k => ∃ m, ls = [.w (.int k m)] ∧ (Lit.int k m).wf = true
      | .bool => ∃ b, ls = [.w (.bool b)]
      | .str => ∃ bs, ls = [.str bs] ∧ bs.length ≤ maxLen
      | .slice e => match T e with
        | none => False
        | some te => match isFlatI te.d with
          | 1 => ∃ bs f, ls = [.sb bs f] ∧ bs.length ≤ maxLen
          | 2 => ∃ ns f, ls = [.si ns f] ∧ ns.length ≤ maxLen ∧ ∀ n ∈ ns, -9223372036854775808 ≤ n ∧ n ≤ 9223372036854775807
          | _ => ∃ xs f, ls = [.sg te.size xs f] ∧ xs.length ≤ maxLen ∧ ∀ x ∈ xs, ∃ l, Shape T n e l ∧ l.length = te.size ∧ x = asv te l
      | .struct fs => ShapeF (Shape T n) fs ls
      | .arr m e => ShapeF (Shape T n) (List.replicate m (0, e)) ls
      | _ => False

/-- The fields lie one behind the other. -/
def tiles (T : Types) : List (Nat × TypeId) → Nat → Nat → Bool
  | [], o, s => o == s
  | p :: r, o, s => match T p.2 with
    | some i => p.1 == o && tiles T r (o + i.size) s
    | none => false

/-- A type that can be told, down to a depth. -/
def okT (T : Types) : Nat → TypeId → Bool
  | 0, _ => false
  | n + 1, t => match T t with
    | none => false
    | some i => match i.d with
      | .int _ => true
      | .bool => true
      | .str => true
      | .slice e => match T e with
        | none => false
        | some te => !(isFlatI te.d == 0) || (okT T n e && decide (0 < te.size))
      | .struct fs => tiles T fs 0 i.size && fs.all fun p => okT T n p.2
      | .arr m e => match T e with
        | some te => m * te.size == i.size && okT T n e
        | none => false
      | _ => false

theorem cellsOf_ty {P : Program} {T : Types} (hT : TOk P T) {t : TypeId} {i : TyI} (h : T t = some i) : P.cellsOf t = i.size := by
  obtain ⟨inf, z, h1, h2, _⟩ := (hT t i h).info
  simp [Program.cellsOf, h1, h2]

section
variable {H : Type} {enc : TypeId × Value → H} {P : Program} {w : World} {base : Nat} {spare : Nat → Bool} {held : Bool}

theorem fields_R {T : Types} (hT : TOk P T) {S : TypeId → List AV → Prop} {ok : TypeId → Bool} {m : Nat} (ih : ∀ t cs x, DataW.trod enc P w base spare held m t cs = some x → ok t = true → ∃ ls, RC w ls cs ∧ S t ls) :
    ∀ (fs : List (Nat × TypeId)) (o s : Nat) (cs : List Value), tiles T fs o s = true → (fs.all fun p => ok p.2) = true → cs.length = s → (∀ p ∈ fs, ∃ x, DataW.trod enc P w base spare held m p.2 ((cs.drop p.1).take (P.cellsOf p.2)) = some x) → ∃ ls, RC w ls (cs.drop o) ∧ ShapeF S fs ls
  | [], o, s, cs, ht, _, hl, _ => by
    simp only [tiles, beq_iff_eq] at ht
    subst ht
    rw [← hl, List.drop_length]
    exact ⟨[], trivial, rfl⟩
  | p :: r, o, s, cs, ht, hk, hl, h => by
    simp only [tiles] at ht
    simp only [List.all_cons, Bool.and_eq_true] at hk
    cases hp : T p.2 with
    | none => simp [hp] at ht
    | some i =>
      simp only [hp, Bool.and_eq_true, beq_iff_eq] at ht
      obtain ⟨rfl, ht⟩ := ht
      obtain ⟨x, hx⟩ := h p (by simp)
      obtain ⟨l1, h1, h2⟩ := ih _ _ _ hx hk.1
      obtain ⟨l2, h3, h4⟩ := fields_R hT ih r _ s cs ht hk.2 hl (fun q hq => h q (by simp [hq]))
      rw [cellsOf_ty hT hp] at h1
      refine ⟨l1 ++ l2, ?_, l1, l2, rfl, h2, h4⟩
      have := RC.append h1 h3
      rwa [← List.drop_drop, List.take_append_drop] at this

theorem arr_R {T : Types} (hT : TOk P T) {S : TypeId → List AV → Prop} {ok : TypeId → Bool} {m : Nat} {e : TypeId} {te : TyI} (he : T e = some te) (hok : ok e = true) (ih : ∀ t cs x, DataW.trod enc P w base spare held m t cs = some x → ok t = true → ∃ ls, RC w ls cs ∧ S t ls) :
    ∀ (k : Nat) (cs : List Value), cs.length = k * te.size → (∀ i, i < k → ∃ x, DataW.trod enc P w base spare held m e ((cs.drop (i * te.size)).take te.size) = some x) → ∃ ls, RC w ls cs ∧ ShapeF S (List.replicate k (0, e)) ls
  | 0, cs, hl, _ => by
    have : cs = [] := List.eq_nil_of_length_eq_zero (by simpa using hl)
    subst this
    exact ⟨[], trivial, rfl⟩
  | k + 1, cs, hl, h => by
    obtain ⟨x, hx⟩ := h 0 (by omega)
    rw [Nat.zero_mul, List.drop_zero] at hx
    obtain ⟨l1, h1, h2⟩ := ih _ _ _ hx hok
    have hmul : (k + 1) * te.size = k * te.size + te.size := Nat.succ_mul _ _
    obtain ⟨l2, h3, h4⟩ := arr_R hT he hok ih k (cs.drop te.size) (by rw [List.length_drop]; omega) (fun i hi => by
      obtain ⟨y, hy⟩ := h (i + 1) (by omega)
      refine ⟨y, ?_⟩
      rw [List.drop_drop, show te.size + i * te.size = (i + 1) * te.size by rw [Nat.succ_mul]; omega]
      exact hy)
    refine ⟨l1 ++ l2, ?_, l1, l2, rfl, h2, h4⟩
    have := RC.append h1 h3
    rwa [List.take_append_drop] at this

/-- The rows of a slice. -/
theorem rows_R {S : List AV → Prop} {te : TyI} (hs : ∀ l, S l → te.d.aggr = false → te.size = 1) {a : Addr} :
    ∀ (n : Nat) (off : Nat), (∀ i, i < n → ∃ (ls : List AV) (cs : List Value), RC w ls cs ∧ S ls ∧ cs.length = te.size ∧ ∀ k, k < te.size → w.cell? (a.add ((off + i) * te.size + k)) = cs[k]?) →
      ∃ (xs : List AV) (cs : List Value), xs.length = n ∧ cs.length = n * te.size ∧ (∀ x ∈ xs, ∃ l, S l ∧ l.length = te.size ∧ x = asv te l ∧ x.leaves = l) ∧ RC w (xs.flatMap AV.leaves) cs ∧ ∀ k, k < n * te.size → w.cell? (a.add (off * te.size + k)) = cs[k]?
  | 0, off, _ => ⟨[], [], rfl, by simp, by simp, trivial, fun k h => by simp at h⟩
  | n + 1, off, h => by
    obtain ⟨ls, c1, h1, h2, h3, h4⟩ := h 0 (by omega)
    obtain ⟨xs, c2, k1, k2, k3, k4, k5⟩ := rows_R hs n (off + 1) (fun i hi => by
      obtain ⟨l, c, a1, a2, a3, a4⟩ := h (i + 1) (by omega)
      refine ⟨l, c, a1, a2, a3, fun k hk => ?_⟩
      rw [show off + 1 + i = off + (i + 1) by omega]; exact a4 k hk)
    have hlen : ls.length = te.size := by rw [RC.len h1, h3]
    have hx : (asv te ls).leaves = ls := by
      unfold asv
      cases ha : te.d.aggr with
      | true => rfl
      | false =>
        have h1s := hs ls h2 ha
        have hl1 : ls.length = 1 := by omega
        obtain ⟨y, rfl⟩ := List.length_eq_one_iff.1 hl1
        have := (RC.get h1 0 (by simp) (by omega)).1
        simp only [List.getElem_cons_zero] at this
        simp only [cond_false, slot]
        cases y <;> first | rfl | simp [AV.leaf] at this
    refine ⟨asv te ls :: xs, c1 ++ c2, by simp [k1], by rw [List.length_append, h3, k2, Nat.succ_mul]; omega, ?_, ?_, ?_⟩
    · intro x hxm
      rcases List.mem_cons.1 hxm with rfl | hxm
      · exact ⟨ls, h2, hlen, rfl, hx⟩
      · exact k3 x hxm
    · rw [List.flatMap_cons, hx]; exact RC.append h1 k4
    · intro k hk
      by_cases hk1 : k < te.size
      · rw [List.getElem?_append_left (by omega)]
        have := h4 k hk1
        rw [Nat.add_zero] at this
        exact this
      · rw [List.getElem?_append_right (by omega), h3]
        have := k5 (k - te.size) (by rw [Nat.succ_mul] at hk; omega)
        rw [← this, Nat.succ_mul]
        congr 2
        omega

theorem add_add (a : Addr) (h : a.spot = none) (m n : Nat) : (a.add m).add n = a.add (m + n) := by
  obtain ⟨b, o, s⟩ := a
  simp only at h
  subst h
  unfold Addr.add
  by_cases hm : m = 0
  · subst hm; simp
  · by_cases hn : n = 0
    · subst hn; simp
    · rw [if_neg hm, if_neg hn, if_neg (by omega)]
      simp; omega

theorem size_one {T : Types} (hT : TOk P T) {t : TypeId} {i : TyI} (h : T t = some i) (ha : i.d.aggr = false) : i.size = 1 := by
  obtain ⟨inf, z, _, _, _, _, _, _, _, h8⟩ := (hT t i h).info
  exact (h8 ha).2.2

theorem cells_at {a : Addr} {cs : List Value} (hne : cs ≠ []) (h : ∀ k, k < cs.length → w.cell? (a.add k) = cs[k]?) : Cells w loc0 (some a) cs ∧ a.spot = none := by
  have hl : 0 < cs.length := List.length_pos_iff.2 hne
  have h1 := h 0 hl
  rw [show a.add 0 = a from rfl, List.getElem?_eq_getElem hl] at h1
  have hx : a.spot = none ∧ a.block < w.heap.size := by
    unfold World.cell? at h1
    split at h1
    · rename_i c e fz hh
      split at h1
      · cases h1
      · rename_i hs
        refine ⟨by simpa using hs, ?_⟩
        rcases Nat.lt_or_ge a.block w.heap.size with h' | h'
        · exact h'
        · rw [Array.getElem?_eq_none h'] at hh; cases hh
    · cases h1
  obtain ⟨b, o, sp⟩ := a
  obtain ⟨rfl, hb⟩ := hx
  refine ⟨⟨.inr ⟨b, o, rfl, not_mut0 b, hb, fun j hj => ?_⟩⟩, rfl⟩
  have h2 := h j hj
  rw [List.getElem?_eq_getElem hj] at h2
  rw [← h2]
  cases j <;> rfl

theorem read_R {T : Types} (hT : TOk P T) : ∀ (n fuel : Nat) (t : TypeId) (cs : List Value) (x : DataW H × List MemPlace), DataW.trod enc P w base (fun _ => true) held fuel t cs = some x → okT T n t = true → ∃ ls, RC w ls cs ∧ Shape T n t ls
  | 0, _, _, _, _, _, h => by simp [okT] at h
  | n + 1, fuel, t, cs, x, h, hok => by
    unfold okT at hok
    unfold Shape
    cases ht : T t with
    | none => simp [ht] at hok
    | some i =>
      simp only [ht] at hok ⊢
      have hd := (hT t i ht).d
      have hsz := cellsOf_ty hT ht
      cases hi : i.d with
      | int k =>
        rw [hi] at hd
        obtain ⟨m, rfl, _, hw⟩ := DataW.trod_int hd h
        exact ⟨[.w (.int k m)], ⟨⟨rfl, rfl, .w _ rfl⟩, trivial⟩, m, rfl, hw⟩
      | bool =>
        rw [hi] at hd
        obtain ⟨b, rfl, _⟩ := DataW.trod_bool hd h
        exact ⟨[.w (.bool b)], ⟨⟨rfl, rfl, .w _ rfl⟩, trivial⟩, b, rfl⟩
      | str =>
        rw [hi] at hd
        obtain ⟨s, rfl, _, hm⟩ := DataW.trod_string hd h
        exact ⟨[.str s.data.toList], ⟨⟨rfl, rfl, str_R w s⟩, trivial⟩, s.data.toList, rfl, by simpa using hm⟩
      | slice e =>
        rw [hi] at hd
        simp only [hi] at hok ⊢
        cases he : T e with
        | none => simp [he] at hok
        | some te =>
          simp only [he] at hok ⊢
          have hde := (hT e te he).d
          have hse := cellsOf_ty hT he
          have row : ∀ k, P.underlying e = some (.int k) → P.cellsOf e = 1 → ∃ a len cap zs, cs = [.slice a len cap] ∧ IsRow k w a len cap zs := by
            intro k hk h1
            rcases open_ints hd hk h1 h with ⟨hcs, _⟩ | ⟨y, l, c, zs, hcs, _, hl, hm, hz, _, hcell, hwz⟩
            · exact ⟨none, 0, 0, [], hcs, .inl ⟨rfl, rfl, rfl, rfl⟩⟩
            · exact ⟨some y, l, c, zs, hcs, .inr ⟨y, rfl, hl, hm, by simpa using hz, hcell, hwz⟩⟩
          have hfi : (isFlatI te.d = 1 ∧ te.d = .int .u8) ∨ (isFlatI te.d = 2 ∧ te.d = .int .i64) ∨ isFlatI te.d = 0 := by
            unfold isFlatI
            split
            · rename_i e; exact .inl ⟨rfl, e⟩
            · rename_i e; exact .inr (.inl ⟨rfl, e⟩)
            · exact .inr (.inr rfl)
          rcases hfi with ⟨hf, hte⟩ | ⟨hf, hte⟩ | hf
          · rw [hf]
            rw [hte] at hde
            obtain ⟨a, len, cap, zs, rfl, hr⟩ := row .u8 hde (by rw [hse]; exact size_one hT he (by rw [hte]; rfl))
            obtain ⟨bs, h1, h2, h3⟩ := row_sb hr
            exact ⟨[.sb bs false], ⟨⟨rfl, rfl, h3⟩, trivial⟩, bs, false, rfl, by omega⟩
          · rw [hf]
            rw [hte] at hde
            obtain ⟨a, len, cap, zs, rfl, hr⟩ := row .i64 hde (by rw [hse]; exact size_one hT he (by rw [hte]; rfl))
            obtain ⟨ns, h1, h2, h4, h3⟩ := row_si hr
            exact ⟨[.si ns false], ⟨⟨rfl, rfl, h3⟩, trivial⟩, ns, false, rfl, by omega, h4⟩
          · rw [hf]
            rw [hf] at hok
            simp only [beq_self_eq_true, Bool.not_true, Bool.false_or, Bool.and_eq_true, decide_eq_true_eq] at hok
            obtain ⟨hok, hpos⟩ := hok
            rcases DataW.trod_slice hd h with ⟨rfl, _⟩ | ⟨a, len, cap, elems, rest, m, _, rfl, _, hb, hl, hm, hlen, hel, _, _⟩
            · exact ⟨[.sg te.size [] false], ⟨⟨rfl, rfl, .sg te.size [] false none 0 [] ⟨Nat.le_refl _, Nat.zero_le _, fun h => by cases h⟩ (by simp) ⟨.inl rfl⟩ rfl (by simp) (by simp)⟩, trivial⟩, [], false, rfl, Nat.zero_le _, by simp⟩
            · rw [hse] at hel
              have hall : ∀ i, i < len → ∃ (ls : List AV) (c : List Value), RC w ls c ∧ Shape T n e ls ∧ c.length = te.size ∧ ∀ k, k < te.size → w.cell? ((a.add (i * te.size)).add k) = c[k]? := by
                intro i hi
                have h1 := hel i hi
                rw [List.getElem?_eq_getElem (by omega), Option.bind_eq_some_iff] at h1
                obtain ⟨c, h2, h3⟩ := h1
                obtain ⟨_, h4, h5⟩ := World.cells?_some h2
                obtain ⟨ls, h6, h7⟩ := read_R hT n m e c _ h3 hok
                exact ⟨ls, c, h6, h7, h4, h5⟩
              by_cases h0 : len = 0
              · subst h0
                exact ⟨[.sg te.size [] false], ⟨⟨rfl, rfl, .sg te.size [] false (some a) cap [] ⟨Nat.zero_le _, hm, fun h => by cases h⟩ (by simp) ⟨.inl rfl⟩ rfl (by simp) (by simp)⟩, trivial⟩, [], false, rfl, Nat.zero_le _, by simp⟩
              · have hspot : a.spot = none := by
                  obtain ⟨ls, c, _, _, h3, h4⟩ := hall 0 (by omega)
                  rw [Nat.zero_mul, show a.add 0 = a from rfl] at h4
                  exact (cells_at (w := w) (a := a) (cs := c) (by intro e; rw [e] at h3; simp at h3; omega) (fun k hk => h4 k (by omega))).2
                obtain ⟨xs, c, k1, k2, k3, k4, k5⟩ := rows_R (w := w) (S := Shape T n e) (te := te) (fun _ _ ha => size_one hT he ha) (a := a) len 0 (fun i hi => by
                  obtain ⟨ls, c, h1, h2, h3, h4⟩ := hall i hi
                  refine ⟨ls, c, h1, h2, h3, fun k hk => ?_⟩
                  rw [Nat.zero_add, ← add_add a hspot]; exact h4 k hk)
                have hcne : c ≠ [] := by
                  intro e; rw [e] at k2
                  simp only [List.length_nil] at k2
                  have := Nat.mul_pos (Nat.pos_of_ne_zero h0) hpos
                  omega
                have hc := (cells_at (w := w) (a := a) (cs := c) hcne (fun k hk => by
                  have := k5 k (by omega)
                  rwa [Nat.zero_mul, Nat.zero_add] at this)).1
                have hR := R.sg (w := w) (loc := loc0) te.size xs false (some a) cap c ⟨by omega, hm, fun h => by cases h⟩ (fun x hx => by obtain ⟨l, _, h2, h3, h4⟩ := k3 x hx; rw [h4]; exact h2) hc (RC.len k4)
                  (fun j hj => ⟨(RC.get k4 j hj (by rw [← RC.len k4]; exact hj)).1, (RC.get k4 j hj (by rw [← RC.len k4]; exact hj)).2.1⟩) (fun j a b => (RC.get k4 j a b).2.2)
                rw [k1] at hR
                exact ⟨[.sg te.size xs false], ⟨⟨rfl, rfl, hR⟩, trivial⟩, xs, false, rfl, by omega, fun x hx => by obtain ⟨l, h1, h2, h3, _⟩ := k3 x hx; exact ⟨l, h1, h2, h3⟩⟩
      | struct fs =>
        rw [hi] at hd
        simp only [hi, Bool.and_eq_true] at hok ⊢
        obtain ⟨gs, hu, rfl⟩ := hd
        obtain ⟨xs, m, _, _, hl, hxl, hf⟩ := DataW.trod_struct hu h
        have := fields_R (w := w) (base := base) (spare := fun _ => true) (held := held) (enc := enc) hT (S := Shape T n) (ok := okT T n) (m := m) (fun t cs x h1 h2 => read_R hT n m t cs x h1 h2) _ 0 i.size cs hok.1 hok.2 (by rw [hl, hsz]) (fun p hp => by
          obtain ⟨g, hg, rfl⟩ := List.mem_map.1 hp
          obtain ⟨j, hj, hgj⟩ := List.getElem_of_mem hg
          have hj2 : gs[j]? = some g := by rw [← hgj]; simp at hj ⊢
          have h3 := hf j g hj2
          have hjx : j < xs.length := by rw [hxl]; simpa using hj
          exact ⟨xs[j], by rw [h3, List.getElem?_eq_getElem hjx]⟩)
        rwa [List.drop_zero] at this
      | arr k e =>
        rw [hi] at hd
        simp only [hi] at hok ⊢
        cases he : T e with
        | none => simp [he] at hok
        | some te =>
          simp only [he, Bool.and_eq_true, beq_iff_eq] at hok
          obtain ⟨xs, m, _, _, hl, hxl, hf⟩ := DataW.trod_array hd h
          rw [cellsOf_ty hT he] at hf
          exact arr_R (w := w) (base := base) (spare := fun _ => true) (held := held) (enc := enc) hT (S := Shape T n) (ok := okT T n) (m := m) he hok.2 (fun t cs x h1 h2 => read_R hT n m t cs x h1 h2) k cs (by rw [hl, hsz]; exact hok.1.symm) (fun j hj => ⟨xs[j]'(by omega), by rw [hf j hj, List.getElem?_eq_getElem (by omega)]⟩)
      | ptr => simp [hi] at hok
      | func => simp [hi] at hok
      | map k e => simp [hi] at hok
      | other => simp [hi] at hok

/-- An argument as a whole. -/
def Arg (T : Types) (n : Nat) (t : TypeId) (x : AV) : Prop := ∃ i ls, T t = some i ∧ Shape T n t ls ∧ x = asv i ls

theorem arg_R {T : Types} (hT : TOk P T) {n : Nat} {t : TypeId} {v : Value} {d : DataW H} {ps : List MemPlace} {r : Reach} {b0 : Nat} (hval : Value.okWide P w r b0 t v) (h : DataW.Trod enc P w base (fun _ => true) held t v d ps) (hok : okT T n t = true) :
    ∃ x, Arg T n t x ∧ R w loc0 x v := by
  obtain ⟨fuel, hf⟩ := h
  obtain ⟨ls, h1, h2⟩ := read_R hT n fuel t _ _ hf hok
  cases ht : T t with
  | none => cases n <;> simp [okT, ht] at hok
  | some i =>
    have hd := (hT t i ht).d
    refine ⟨asv i ls, ⟨i, ls, ht, h2, rfl⟩, ?_⟩
    cases ha : i.d.aggr with
    | true =>
      have hv : ∃ c, v = .agg c := by
        unfold Value.okWide at hval
        cases hi : i.d with
        | struct fs =>
          rw [hi] at hd
          obtain ⟨gs, hu, _⟩ := hd
          rw [hu] at hval
          obtain ⟨c, hc, _⟩ := hval
          exact ⟨c, hc⟩
        | arr k e =>
          rw [hi] at hd
          have hu : P.underlying t = some (.array k e) := hd
          rw [hu] at hval
          obtain ⟨c, hc, _⟩ := hval
          exact ⟨c, hc⟩
        | _ => rw [hi] at ha; cases ha
      obtain ⟨c, rfl⟩ := hv
      simp only [asv, ha, cond_true]
      have hl := RC.len h1
      have := R.agg (w := w) (loc := loc0) ls c.toList hl (fun j hj => (RC.get h1 j hj (by rw [← hl]; exact hj)).1) (fun j a b => (RC.get h1 j a b).2.2)
      rwa [Array.toArray_toList] at this
    | false =>
      simp only [asv, ha, cond_false]
      have key : ∃ u, v.cells = #[u] ∧ u = v := by
        cases v with
        | agg c =>
          exfalso
          unfold Value.okWide Cell.okWide Cell.ok at hval
          cases hi : i.d with
          | struct fs => rw [hi] at ha; cases ha
          | arr k e => rw [hi] at ha; cases ha
          | int k => rw [hi] at hd; have hu : P.underlying t = some (.int k) := hd; simp [hu] at hval
          | bool => rw [hi] at hd; have hu : P.underlying t = some .bool := hd; simp [hu] at hval
          | str => rw [hi] at hd; have hu : P.underlying t = some .string := hd; simp [hu] at hval
          | slice e => rw [hi] at hd; have hu : P.underlying t = some (.slice e) := hd; simp [hu] at hval
          | _ => cases n <;> simp [okT, ht, hi] at hok
        | _ => exact ⟨_, rfl, rfl⟩
      obtain ⟨u, hu, rfl⟩ := key
      rw [hu] at h1
      match ls, h1 with
      | [y], h1 => exact h1.1.2.2
end

end Ax
end Go.Proofs.Ytbncglnlmcjplaa
