/- That what is said of abstract values holds of the model: stores; new memory; parts; numbers and texts. -/
import Derived.Test.YtgkkgbomhfdbkaaAxE
namespace Go.Proofs.Ytgkkgbomhfdbkaa
namespace Ax
section ops
variable {P : Program}

/-- Writing cells into a block. -/
theorem run_storeCells' (b o : Nat) (e : TypeId) (fz : Nat × Nat) : ∀ (vs : List Value) (i : Nat) (cur : Array Value) (w : World), w.heap[b]? = some (.cells cur e fz) → (∀ j, j < cur.size → ¬ (fz.1 ≤ j ∧ j < fz.2)) → o + i + vs.length ≤ cur.size → (∀ v ∈ vs, one v = true) →
    ∃ w' cur', (storeCells ⟨b, o, none⟩ vs i).run P w = .ok () w' ∧ w'.heap[b]? = some (.cells cur' e fz) ∧ cur'.size = cur.size ∧ (∀ c, c ≠ b → w'.heap[c]? = w.heap[c]?) ∧ w'.heap.size = w.heap.size ∧ w'.os = w.os ∧ w'.tape = w.tape ∧ w'.output = w.output ∧
      (∀ j, j < cur.size → cur'[j]? = if o + i ≤ j ∧ j < o + i + vs.length then vs[j - (o + i)]? else cur[j]?)
  | [], i, cur, w, hw, _, _, _ => ⟨w, cur, rfl, hw, rfl, fun _ _ => rfl, rfl, rfl, rfl, rfl, fun j _ => by rw [if_neg (by simp)]⟩
  | v :: r, i, cur, w, hw, hf, hl, h1 => by
    have hv : one v = true := h1 v (by simp)
    have hlt : o + i < cur.size := by simp at hl; omega
    have hadd : Addr.add ⟨b, o, none⟩ i = ⟨b, o + i, none⟩ := by
      by_cases h0 : i = 0
      · subst h0; simp [Addr.add]
      · simp [Addr.add, h0]
    have hcell : w.cell? ⟨b, o + i, none⟩ = some cur[o + i] := by simp [World.cell?, hw, Array.getElem?_eq_getElem hlt]
    have hfz : w.frozen? ⟨b, o + i, none⟩ = false := by
      have := hf (o + i) hlt
      simp only [World.frozen?, hw]
      simp; omega
    have hst : (store ⟨b, o + i, none⟩ v).run P w = .ok () (w.setCell ⟨b, o + i, none⟩ v) := by
      cases v <;> first | (simp [one] at hv; done) | simp [store, Sem.run, hcell, hfz]
    have hw1 : (w.setCell ⟨b, o + i, none⟩ v).heap[b]? = some (.cells (cur.setIfInBounds (o + i) v) e fz) := by
      simp [World.setCell, Array.getElem?_modify, hw]
    have hother : ∀ c, c ≠ b → (w.setCell ⟨b, o + i, none⟩ v).heap[c]? = w.heap[c]? := fun c hc => by
      simp only [World.setCell, Array.getElem?_modify]; rw [if_neg (Ne.symm hc)]
    obtain ⟨w', cur', h2, h3, h4, h5, h6, h7, h8, h9, h10⟩ := run_storeCells' b o e fz r (i + 1) (cur.setIfInBounds (o + i) v) _ hw1 (by simpa using hf) (by simp at hl ⊢; omega) (fun u hu => h1 u (by simp [hu]))
    refine ⟨w', cur', by simp [storeCells, hadd, hst, h2], h3, by simpa using h4, fun c hc => (h5 c hc).trans (hother c hc), by simpa [World.setCell] using h6, h7, h8, h9, fun j hj => ?_⟩
    rw [h10 j (by simpa using hj)]
    by_cases he : j = o + i
    · subst he
      rw [if_neg (by omega), if_pos (by simp)]
      simp [hlt]
    · by_cases h11 : o + (i + 1) ≤ j ∧ j < o + (i + 1) + r.length
      · rw [if_pos h11, if_pos (by simp; omega)]
        have : j - (o + i) = (j - (o + (i + 1))) + 1 := by omega
        rw [this]; simp
      · rw [if_neg h11, if_neg (by simp; omega)]
        rw [Array.getElem?_setIfInBounds]
        rw [if_neg (by omega)]

/-- A write into a block of the call's own. -/
theorem post_write {w0 : World} {E : Nat → Prop} {w w' : World} {loc : Loc} {H : Heap} {id b nm : Nat} {blk : Blk} {x : AV} {v : Value} {cur cur' : Array Value} {e : TypeId} {fz : Nat × Nat}
    (he : Env w0 E w loc) (hh : HR w loc H) (hb : loc.m id = .here b) (hw : w.heap[b]? = some (.cells cur e fz)) (hw' : w'.heap[b]? = some (.cells cur' e fz)) (hs : cur'.size = cur.size)
    (hother : ∀ c, c ≠ b → w'.heap[c]? = w.heap[c]?) (hsz : w'.heap.size = w.heap.size) (h1 : w'.os = w.os) (h2 : w'.tape = w.tape) (h3 : w'.output = w.output)
    (hok : blk.ok) (hfz : fz.1 = fz.2 ∨ cur.size ≤ fz.1) (hone : ∀ (j : Nat) (h : j < cur'.size), one cur'[j] = true) (hlen : blk.flat.length ≤ cur'.size)
    (hr : ∀ (j : Nat) (h : j < blk.flat.length) (h' : j < cur'.size), blk.flat[j].leaf = true ∧ R w loc blk.flat[j] cur'[j])
    (hx : ∀ w' loc', R w' loc' x v) : Post w0 E w loc true nm x (put H id blk) v w' loc := by
  have hext : Ext (fun k => k = id) w loc w' loc := by
    refine ⟨by omega, fun _ _ _ => rfl, fun _ _ _ => .inl rfl, fun c hc hm => ⟨hother c ?_, hm⟩, fun k c hk hC => hother c ?_, fun k c cur1 e1 fz1 hk hc1 => ?_⟩
    · intro hcb; subst hcb; exact hm (.inr ⟨id, hb⟩)
    · intro hcb; subst hcb; exact hC (he.inj k id c hk hb)
    · by_cases hcb : c = b
      · subst hcb
        rw [hw] at hc1; injection hc1 with hc1; injection hc1 with h4 h5 h6; subst h4 h5 h6
        exact ⟨cur', fz, hw', hs⟩
      · exact ⟨cur1, fz1, (hother c hcb).trans hc1, rfl⟩
  refine ⟨hx _ _, ?_, ⟨h1.trans he.os, h2.trans he.tape, h3.trans he.output, by have := he.size; omega, fun c hc hE => ?_, he.inj, fun i c hi => by have := he.lies i c hi; exact ⟨by omega, this.2⟩, he.bad⟩, ⟨_, hext, fun h => by cases h⟩, fun _ h h' => (h' h).elim, rfl⟩
  · intro k blk' hk
    rw [look_put] at hk
    split at hk
    · rename_i hi; subst hi
      injection hk with hk; subst hk
      unfold BlkR
      rw [hb]
      exact ⟨hok, ⟨cur', e, fz, hw', by rw [hs]; exact hfz, hone, hlen, fun j a c => ⟨(hr j a c).1, (hr j a c).2.ext hext⟩⟩⟩
    · rename_i hi
      by_cases hfr : loc.m k = .free
      · exact BlkR.free hfr
      · exact (hh k blk' hk).ext hext (Ne.symm hi) hfr
  · rw [hother c ?_]
    · exact he.same c hc hE
    · intro hcb; subst hcb
      have := (he.lies id c hb).2
      rcases this with h | h
      · omega
      · exact hE h

theorem leaf_leaves {x : AV} (h : x.leaf = true) : x.leaves = [x] := by cases x <;> first | rfl | simp [AV.leaf] at h

theorem flat_len {blk : Blk} (hok : blk.ok) : blk.flat.length = blk.len * blk.size := by
  cases blk with
  | b bs => simp [Blk.flat, Blk.len, Blk.size]
  | i ns => simp [Blk.flat, Blk.len, Blk.size]
  | g s xs =>
    obtain ⟨_, hs⟩ := hok
    simp only [Blk.flat, Blk.len, Blk.size]
    induction xs with
    | nil => simp
    | cons x r ih => simp only [List.flatMap_cons, List.length_append, List.length_cons]; rw [ih (fun y hy => hs y (by simp [hy])), hs x (by simp), Nat.succ_mul]; omega

theorem size_pos {blk : Blk} (hok : blk.ok) : 0 < blk.size := by
  cases blk with
  | b bs => exact Nat.one_pos
  | i ns => exact Nat.one_pos
  | g s xs => exact hok.1

theorem byte_of {m : Int} (h0 : 0 ≤ m) (h1 : m < 256) : byte (UInt8.ofNat m.toNat) = .int .u8 m := by
  unfold byte
  congr 1
  simp [UInt8.toNat_ofNat']
  omega

theorem splice_len {ls vs : List AV} {f : Nat} (h : f + vs.length ≤ ls.length) : (splice ls f vs).length = ls.length := by
  simp [splice]; omega

theorem splice_get {ls vs : List AV} {f j : Nat} (h : f + vs.length ≤ ls.length) (hj : j < ls.length) (hj' : j < (splice ls f vs).length) : (splice ls f vs)[j] = if h2 : f ≤ j ∧ j < f + vs.length then vs[j - f] else ls[j] := by
  unfold splice at hj' ⊢
  by_cases h1 : j < f
  · rw [List.getElem_append_left (by simp; omega), dif_neg (by omega)]; simp
  · rw [List.getElem_append_right (by simp; omega)]
    by_cases h2 : j < f + vs.length
    · rw [List.getElem_append_left (by simp; omega), dif_pos (by omega)]
      congr 1; simp; omega
    · rw [List.getElem_append_right (by simp; omega), dif_neg (by omega)]
      simp only [List.getElem_drop]
      congr 1; simp; omega

theorem set_elem {blk : Blk} (hok : blk.ok) {i f : Nat} {x : AV} (hi : i < blk.len) (hp : (setB blk i f x).1) :
    (setB blk i f x).2.ok ∧ (setB blk i f x).2.len = blk.len ∧ (setB blk i f x).2.size = blk.size ∧ f + x.leaves.length ≤ blk.size ∧
    ∀ k, k < blk.len → elemLeaves (setB blk i f x).2 k = if k = i then splice (elemLeaves blk i) f x.leaves else elemLeaves blk k := by
  cases blk with
  | b bs =>
    simp only [setB] at hp ⊢
    simp only [Blk.len] at hi
    split at hp
    · rename_i m
      obtain ⟨rfl, h0, h1⟩ := hp
      refine ⟨trivial, by simp [Blk.len], rfl, by simp [Blk.size, AV.leaves], fun k hk => ?_⟩
      simp only [Blk.len] at hk
      by_cases hki : k = i
      · subst hki
        simp [elemLeaves, splice, AV.leaves, List.getD, hk, byte_of h0 h1]
      · simp [elemLeaves, hki, List.getD, Ne.symm hki]
    · exact hp.elim
  | i ns =>
    simp only [setB] at hp ⊢
    simp only [Blk.len] at hi
    split at hp
    · rename_i m
      obtain rfl := hp
      refine ⟨trivial, by simp [Blk.len], rfl, by simp [Blk.size, AV.leaves], fun k hk => ?_⟩
      simp only [Blk.len] at hk
      by_cases hki : k = i
      · subst hki
        simp [elemLeaves, splice, AV.leaves, List.getD, hk, word]
      · simp [elemLeaves, hki, List.getD, Ne.symm hki]
    · exact hp.elim
  | g s xs =>
    obtain ⟨h0, hs⟩ := hok
    simp only [Blk.len] at hi
    have hxi : slot xs i = xs[i] := slot_lt hi
    have hsi : xs[i].leaves.length = s := hs _ (List.getElem_mem hi)
    have main : ∀ y : AV, y.leaves.length = s → y.leaves = splice xs[i].leaves f x.leaves → f + x.leaves.length ≤ s →
        Blk.ok (.g s (setSlot xs i y)) ∧ Blk.len (.g s (setSlot xs i y)) = Blk.len (.g s xs) ∧ Blk.size (.g s (setSlot xs i y)) = Blk.size (.g s xs) ∧ f + x.leaves.length ≤ Blk.size (.g s xs) ∧
        ∀ k, k < Blk.len (.g s xs) → elemLeaves (.g s (setSlot xs i y)) k = if k = i then splice (elemLeaves (.g s xs) i) f x.leaves else elemLeaves (.g s xs) k := by
      intro y hy1 hy2 hy3
      rw [setSlot_set]
      refine ⟨⟨h0, fun z hz => ?_⟩, by simp [Blk.len], rfl, hy3, fun k hk => ?_⟩
      · rcases List.mem_or_eq_of_mem_set hz with h | h
        · exact hs z h
        · rw [h]; exact hy1
      · simp only [Blk.len] at hk
        by_cases hki : k = i
        · subst hki
          simp only [elemLeaves, if_pos]
          rw [slot_lt (by simpa using hk), hxi]
          simpa using hy2
        · simp only [elemLeaves, if_neg hki]
          rw [slot_lt (by simpa using hk), slot_lt hk, List.getElem_set_ne (Ne.symm hki)]
    simp only [setB, hxi] at hp ⊢
    cases hxs : xs[i] with
    | agg ls =>
      simp only [hxs] at hp ⊢
      have hls : ls.length = s := by rw [hxs] at hsi; exact hsi
      exact main _ (by rw [← hls]; exact splice_len hp) (by rw [hxs]; rfl) (by omega)
    | _ =>
      simp only [hxs] at hp ⊢
      obtain ⟨rfl, hl⟩ := hp
      have h1 : (1 : Nat) = s := by rw [hxs] at hsi; exact hsi
      have h2 := leaf_leaves hl
      exact main x (by rw [h2]; exact h1) (by rw [hxs, h2]; rfl) (by rw [h2]; simp; omega)

theorem flat_set {blk : Blk} (hok : blk.ok) {i f : Nat} {x : AV} (hi : i < blk.len) (hp : (setB blk i f x).1) :
    (setB blk i f x).2.ok ∧ (setB blk i f x).2.flat.length = blk.flat.length ∧ i * blk.size + f + x.leaves.length ≤ blk.flat.length ∧
    ∀ (j : Nat) (h : j < blk.flat.length) (h' : j < (setB blk i f x).2.flat.length), (setB blk i f x).2.flat[j] = if h2 : i * blk.size + f ≤ j ∧ j < i * blk.size + f + x.leaves.length then x.leaves[j - (i * blk.size + f)] else blk.flat[j] := by
  obtain ⟨h1, h2, h3, h4, h5⟩ := set_elem hok hi hp
  have hlen : (setB blk i f x).2.flat.length = blk.flat.length := by rw [flat_len h1, flat_len hok, h2, h3]
  obtain ⟨e1, e2, e3⟩ := flat_elem hok hi
  refine ⟨h1, hlen, by omega, fun j hj hj' => ?_⟩
  have hs := size_pos hok
  generalize hb : (setB blk i f x).2 = blk' at *
  have hq : j / blk.size < blk.len := by rw [Nat.div_lt_iff_lt_mul hs]; rw [flat_len hok] at hj; exact hj
  have hr : j % blk.size < blk.size := Nat.mod_lt _ hs
  have hjq : j = j / blk.size * blk.size + j % blk.size := by rw [Nat.mul_comm]; exact (Nat.div_add_mod j blk.size).symm
  generalize hqe : j / blk.size = q at *
  generalize hre : j % blk.size = r at *
  subst hjq
  obtain ⟨a1, a2, a3⟩ := flat_elem hok hq
  obtain ⟨b1, b2, b3⟩ := flat_elem h1 (i := q) (by rw [h2]; exact hq)
  rw [h3] at b1 b2 b3
  rw [b3 r (by rw [b1]; exact hr) hj']
  have hnew := h5 q hq
  have hgen : ∀ (l : List AV) (hl : elemLeaves blk' q = l) (hr2 : r < l.length), (elemLeaves blk' q)[r]'(by rw [b1]; exact hr) = l[r] := by intro l hl hr2; subst hl; rfl
  by_cases hqi : q = i
  · subst hqi
    rw [if_pos rfl] at hnew
    have hsl : (splice (elemLeaves blk q) f x.leaves).length = blk.size := by rw [splice_len (by rw [a1]; exact h4), a1]
    rw [hgen _ hnew (by rw [hsl]; exact hr), splice_get (by rw [a1]; exact h4) (by rw [a1]; exact hr)]
    by_cases hc : f ≤ r ∧ r < f + x.leaves.length
    · rw [dif_pos hc, dif_pos (by omega)]
      congr 1; omega
    · rw [dif_neg hc, dif_neg (by omega)]
      exact (a3 r (by rw [a1]; exact hr) hj).symm
  · rw [if_neg hqi] at hnew
    rw [hgen _ hnew (by rw [a1]; exact hr), dif_neg]
    · exact (a3 r (by rw [a1]; exact hr) hj).symm
    · intro hc
      rcases Nat.lt_or_gt_of_ne hqi with h | h
      · have := Nat.mul_le_mul_right blk.size (show q + 1 ≤ i from h)
        rw [Nat.succ_mul] at this; omega
      · have := Nat.mul_le_mul_right blk.size (show i + 1 ≤ q from h)
        rw [Nat.succ_mul] at this; omega

end ops
end Ax
end Go.Proofs.Ytgkkgbomhfdbkaa
