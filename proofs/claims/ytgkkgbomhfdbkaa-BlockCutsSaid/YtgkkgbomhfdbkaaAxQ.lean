/- Calls: what a function is said to do, and what a call of it does to the caller. -/
import Derived.Test.YtgkkgbomhfdbkaaAxP
namespace Go.Proofs.Ytgkkgbomhfdbkaa
namespace Ax
set_option linter.unusedSimpArgs false
set_option linter.unusedVariables false

/-- What a call may do to the world: write the blocks of E, lay new ones. -/
structure Fram (w w' : World) (E : Nat → Prop) : Prop where
  os : w'.os = w.os
  tape : w'.tape = w.tape
  output : w'.output = w.output
  size : w.heap.size ≤ w'.heap.size
  same : ∀ b, b < w.heap.size → ¬ E b → w'.heap[b]? = w.heap[b]?
  shape : ∀ b cur e fz, E b → w.heap[b]? = some (.cells cur e fz) → ∃ cur' fz', w'.heap[b]? = some (.cells cur' e fz') ∧ cur'.size = cur.size

def locOf (pb : List Nat) (bad : Nat → Prop) : Loc := { m := fun id => match pb[id]? with | some b => .here b | none => .free, bad }

structure Gives (w : World) (bad : Nat → Prop) (pb : List Nat) (q : Res) (v : Value) (w' : World) (loc' : Loc) : Prop where
  r : R w' loc' q.x v
  bad : loc'.bad = bad
  bl : ∀ (k : Nat) (h : k < q.bl.length), BlkR w' loc' k q.bl[k] ∧ loc'.m k ≠ .free ∧ loc'.m k ≠ .dead
  old : ∀ (k : Nat) (h : k < pb.length), loc'.m k = .here pb[k]
  new : ∀ k b, pb.length ≤ k → loc'.m k = .here b → w.heap.size ≤ b ∧ b < w'.heap.size
  none : ∀ k, q.bl.length ≤ k → loc'.m k = .free
  inj : ∀ i j b, loc'.m i = .here b → loc'.m j = .here b → i = j
  fram : Fram w w' (· ∈ pb)

/-- A function does what is said of it. -/
def Sound (P : Program) (f : FuncId) (spec : FSpec) : Prop :=
  ∀ (xs : List AV) (pins : List Blk), (spec xs pins).p → closedB pins = true →
  ∀ (w : World) (bad : Nat → Prop) (pb : List Nat) (vs : List Value), pb.length = pins.length → pb.Nodup → (∀ b, bad b → b < w.heap.size ∧ ¬ b ∈ pb) →
    (∀ (k : Nat) (h : k < pins.length) (h' : k < pb.length), pins[k].ok ∧ Lies w (locOf pb bad) pins[k] pb[k]) →
    xs.length = vs.length → (∀ (j : Nat) (h : j < xs.length) (h' : j < vs.length), R w (locOf pb bad) xs[j] vs[j]) →
    Calls P f vs.toArray w fun e w' => ∃ v loc', e = .returned v ∧ Gives w bad pb (spec xs pins) v w' loc'

theorem mut_locOf {pb : List Nat} {bad : Nat → Prop} {b : Nat} : Mut (locOf pb bad) b ↔ bad b ∨ b ∈ pb := by
  constructor
  · rintro (h | ⟨k, h⟩)
    · exact .inl h
    · right
      simp only [locOf] at h
      split at h
      · rename_i c hc; injection h with h; subst h; exact List.mem_of_getElem? hc
      · cases h
  · rintro (h | h)
    · exact .inl h
    · obtain ⟨k, hk, rfl⟩ := List.getElem_of_mem h
      exact .inr ⟨k, by simp [locOf, List.getElem?_eq_getElem hk]⟩

theorem locOf_at {pb : List Nat} {bad : Nat → Prop} {k b : Nat} (h : (locOf pb bad).m k = .here b) : ∃ hk : k < pb.length, pb[k] = b := by
  simp only [locOf] at h
  split at h
  · rename_i c hc
    injection h with h; subst h
    obtain ⟨hk, he⟩ := List.getElem?_eq_some_iff.1 hc
    exact ⟨hk, he⟩
  · cases h

theorem idx_lt {id : Nat} : ∀ {l : List Nat}, id ∈ l → idx id l < l.length ∧ l[idx id l]? = some id
  | [], h => by simp at h
  | k :: r, h => by
    unfold idx
    by_cases hk : k = id
    · subst hk; simp
    · have : (k == id) = false := by simpa using hk
      rw [this]
      have hm : id ∈ r := by
        rcases List.mem_cons.1 h with h | h
        · exact (hk h.symm).elim
        · exact h
      obtain ⟨h1, h2⟩ := idx_lt hm
      simp only [cond_false]
      exact ⟨by simp; exact h1, by simpa using h2⟩

/-- The blocks that the names lie at. -/
structure PB (loc : Loc) (ids pb : List Nat) : Prop where
  len : pb.length = ids.length
  at_ : ∀ (k : Nat) (h : k < ids.length) (h' : k < pb.length), loc.m ids[k] = .here pb[k]

theorem PB.mem {loc : Loc} {ids pb : List Nat} (h : PB loc ids pb) {b : Nat} (hb : b ∈ pb) : ∃ id ∈ ids, loc.m id = .here b := by
  obtain ⟨k, hk, rfl⟩ := List.getElem_of_mem hb
  have hk2 : k < ids.length := by rw [← h.len]; exact hk
  exact ⟨ids[k], List.getElem_mem _, h.at_ k hk2 hk⟩

theorem closedL_mem {xs : List AV} (h : closedL xs = true) {x : AV} (hx : x ∈ xs) : x.closed = true := by
  obtain ⟨j, hj, rfl⟩ := List.getElem_of_mem hx
  exact closedL_get h j hj

theorem closed_leaves {x : AV} (h : x.closed = true) : ∀ y ∈ x.leaves, y.closed = true := by
  intro y hy
  cases x with
  | agg xs => exact closedL_mem (by simpa [AV.closed] using h) (by simpa [AV.leaves] using hy)
  | _ => simp only [AV.leaves, List.mem_singleton] at hy; subst hy; exact h

mutual
theorem lend_sound {w0 : World} {E : Nat → Prop} {w : World} {loc : Loc} {H : Heap} (he : Env w0 E w loc) (hh : HR w loc H) {ids pb : List Nat} (hpb : PB loc ids pb) {bad' : Nat → Prop} (hbad : ∀ b, bad' b → Mut loc b) :
    ∀ (x : AV) (v : Value), R w loc x v → (lend H ids x).1 → (∀ id ∈ x.roots, id ∈ ids) → (∀ id ∈ x.lentIds, ∀ b, loc.m id = .here b → ¬ bad' b) → R w (locOf pb bad') (lend H ids x).2 v ∧ (x.leaf = true → (lend H ids x).2.leaf = true)
  | .agg xs, v, hx, hp, hr, hl => by
    simp only [lend] at hp ⊢
    obtain ⟨cs, rfl, hc⟩ := agg_cells hx
    have hlf := hc.leaf
    obtain ⟨h1, h2, h3⟩ := lendL_sound he hh hpb hbad xs cs.toList hc.len hc.r hp (by simpa [AV.roots] using hr) (by simpa [AV.lentIds] using hl)
    refine ⟨?_, by simp [AV.leaf]⟩
    have := R.agg (w := w) (loc := locOf pb bad') (lendL H ids xs).2 cs.toList (by rw [h1, hc.len]) (fun j hj => (h3 j hj (by rw [← h1]; exact hj)) (hlf j (by rw [← h1]; exact hj))) h2
    rw [Array.toArray_toList] at this
    exact this
  | .fn f xs, v, hx, hp, hr, hl => by
    simp only [lend] at hp ⊢
    cases hx with
    | fn _ _ cs hlen h =>
      obtain ⟨h1, h2, h3⟩ := lendL_sound he hh hpb hbad xs cs hlen h hp (by simpa [AV.roots] using hr) (by simpa [AV.lentIds] using hl)
      exact ⟨.fn f _ cs (by rw [h1, hlen]) h2, fun _ => rfl⟩
  | .tup xs, v, hx, hp, hr, hl => by simp [lend] at hp
  | .rf id s i f, v, hx, hp, hr, hl => by
    simp only [lend] at hp ⊢
    cases hx with
    | rf _ _ _ _ _ h =>
      have hid : id ∈ ids := hr id (by simp [AV.roots])
      obtain ⟨k1, k2⟩ := idx_lt hid
      obtain ⟨k3, k4⟩ := List.getElem?_eq_some_iff.1 k2
      have k5 := hpb.at_ _ k1 (by rw [hpb.len]; exact k1)
      rw [k4] at k5
      refine ⟨.rf _ _ _ _ _ ?_, fun _ => rfl⟩
      unfold Points at h ⊢
      rw [k5] at h
      have : (locOf pb bad').m (idx id ids) = .here (pb[idx id ids]'(by rw [hpb.len]; exact k1)) := by
        simp only [locOf]
        rw [List.getElem?_eq_getElem (by rw [hpb.len]; exact k1)]
      rw [this]
      exact h
  | .ms id s off len, v, hx, hp, hr, hl => by
    have hb0 := hl id (by simp [AV.lentIds])
    cases hx with
    | ms _ _ _ _ _ h =>
      simp only [lend] at hp ⊢
      cases hlk : look H id with
      | none => simp [hlk] at hp
      | some blk =>
        -- the block is not among those that are handed on
        have nomut : ¬ id ∈ ids → ∀ b, loc.m id = .here b → ¬ Mut (locOf pb bad') b := by
          intro hid b hb hM
          rcases mut_locOf.1 hM with h1 | h1
          · exact hb0 b hb h1
          · obtain ⟨id', hi, hb'⟩ := hpb.mem h1
            have := he.inj id id' b hb hb'
            subst this; exact hid hi
        have cells : ∀ (n : Nat) (fl : List AV), ¬ id ∈ ids → Seen w loc v n s fl → ∃ a cap cs, v = .slice a n cap ∧ n ≤ cap ∧ cap ≤ maxLen ∧ (n = 0 ∨ (cs.length = n * s ∧ CellsOf w loc fl cs ∧ ∃ b o, a = some ⟨b, o, none⟩ ∧ b < w.heap.size ∧ (∀ (j : Nat) (hj : j < cs.length), w.cell? ⟨b, o + j, none⟩ = some cs[j]) ∧ loc.m id = .here b)) := by
          intro n fl hid hs
          obtain ⟨a, cap, rfl, h1, h2, h3⟩ := hs.seen
          have hfr : loc.m id ≠ .free := by intro e; simp [Owns, e] at h
          rcases h3 with h3 | ⟨b, o, cs, rfl, h4, h5, h6, h7⟩
          · exact ⟨a, cap, [], rfl, h1, h2, .inl h3⟩
          · refine ⟨_, cap, cs, rfl, h1, h2, ?_⟩
            obtain ⟨hok, hn | ⟨b', hb', _⟩⟩ := hh.get hlk hfr
            · unfold Owns at h; rw [hn.1] at h
              left
              obtain ⟨hl0, a, ha⟩ := h
              injection ha with _ hq _
            · unfold Owns at h; rw [hb'] at h
              obtain ⟨o', cap', cur0, e0, fz0, hv, _⟩ := h
              injection hv with hv _ _
              injection hv with hv
              injection hv with hv1 hv2
              subst hv1
              exact .inr ⟨h5, h7, b, o, rfl, h4, h6, hb'⟩
        cases blk with
        | b bs =>
          simp only [hlk] at hp ⊢
          obtain ⟨rfl, hle, hid⟩ := hp
          have hs := seen_ms hh h hlk rfl hle
          have e : ((bs.drop off).take len).length = len := by simp; omega
          have hfl : (Blk.flat (.b bs) |>.drop (off * 1) |>.take (len * 1)) = ((bs.drop off).take len).map fun b => .w (byte b) := by
            simp [Blk.flat, List.map_take, List.map_drop]
          rw [hfl] at hs
          obtain ⟨a, cap, cs, rfl, h1, h2, h3⟩ := cells len _ hid hs
          refine ⟨?_, fun _ => rfl⟩
          have key : Cells w (locOf pb bad') a (((bs.drop off).take len).map byte) := by
            rcases h3 with h3 | ⟨h4, h5, b, o, rfl, h6, h7, h8⟩
            · subst h3; exact ⟨.inl (by simp)⟩
            · have hcs := seen_bytes h5
              subst hcs
              exact ⟨.inr ⟨b, o, rfl, nomut hid b h8, h6, h7⟩⟩
          have := R.sb (w := w) (loc := locOf pb bad') ((bs.drop off).take len) false a cap ⟨by omega, h2, by simp⟩ key
          rw [e] at this
          exact this
        | i ns =>
          simp only [hlk] at hp ⊢
          obtain ⟨rfl, hle, hid⟩ := hp
          have hs := seen_ms hh h hlk rfl hle
          have e : ((ns.drop off).take len).length = len := by simp; omega
          have hfl : (Blk.flat (.i ns) |>.drop (off * 1) |>.take (len * 1)) = ((ns.drop off).take len).map fun b => .w (word b) := by
            simp [Blk.flat, List.map_take, List.map_drop]
          rw [hfl] at hs
          obtain ⟨a, cap, cs, rfl, h1, h2, h3⟩ := cells len _ hid hs
          refine ⟨?_, fun _ => rfl⟩
          have key : Cells w (locOf pb bad') a (((ns.drop off).take len).map word) := by
            rcases h3 with h3 | ⟨h4, h5, b, o, rfl, h6, h7, h8⟩
            · subst h3; exact ⟨.inl (by simp)⟩
            · have hcs : cs = ((ns.drop off).take len).map word := by
                refine List.ext_getElem (by have := h5.len; simpa using this.symm) fun j a b => ?_
                have := h5.r j (by simpa using b) a
                simp only [List.getElem_map] at this ⊢
                exact this.wv
              subst hcs
              exact ⟨.inr ⟨b, o, rfl, nomut hid b h8, h6, h7⟩⟩
          have := R.si (w := w) (loc := locOf pb bad') ((ns.drop off).take len) false a cap ⟨by omega, h2, by simp⟩ key
          rw [e] at this
          exact this
        | g s' xs =>
          simp only [hlk] at hp ⊢
          obtain ⟨rfl, hle, hid, hcl⟩ := hp
          have hfr : loc.m id ≠ .free := by intro e; simp [Owns, e] at h
          obtain ⟨hok, _⟩ := hh.get hlk hfr
          have hs := seen_ms hh h hlk rfl hle
          have e : ((xs.drop off).take len).length = len := by simp; omega
          have hls : ∀ y ∈ (xs.drop off).take len, y.leaves.length = s' := fun y hy => hok.2 y (List.mem_of_mem_drop (List.mem_of_mem_take hy))
          have hfl : (Blk.flat (.g s' xs) |>.drop (off * s') |>.take (len * s')) = ((xs.drop off).take len).flatMap AV.leaves := by
            rw [flatMap_take _ _ (fun y hy => hok.2 y (List.mem_of_mem_drop hy)), flatMap_drop _ _ hok.2]; rfl
          rw [hfl] at hs
          obtain ⟨a, cap, cs, rfl, h1, h2, h3⟩ := cells len _ hid hs
          refine ⟨?_, fun _ => rfl⟩
          have hclosed : ∀ (j : Nat) (hj : j < (((xs.drop off).take len).flatMap AV.leaves).length), (((xs.drop off).take len).flatMap AV.leaves)[j].closed = true := by
            intro j hj
            have hm := List.getElem_mem hj
            obtain ⟨y, hy, hyl⟩ := List.mem_flatMap.1 hm
            exact closed_leaves (hcl y hy) _ hyl
          have hM : ∀ b, b < w.heap.size → Mut (locOf pb bad') b → Mut loc b := by
            intro b _ hb
            rcases mut_locOf.1 hb with hb | hb
            · exact hbad b hb
            · obtain ⟨id', _, hb'⟩ := hpb.mem hb; exact .inr ⟨id', hb'⟩
          have := R.sg (w := w) (loc := locOf pb bad') s' ((xs.drop off).take len) false a cap (if len = 0 then [] else cs) ⟨by omega, h2, by simp⟩ hls
            (by
              rcases h3 with h3 | ⟨h4, h5, b, o, rfl, h6, h7, h8⟩
              · rw [if_pos h3]; exact ⟨.inl rfl⟩
              · by_cases h0 : len = 0
                · rw [if_pos h0]; exact ⟨.inl rfl⟩
                · rw [if_neg h0]; exact ⟨.inr ⟨b, o, rfl, nomut hid b h8, h6, h7⟩⟩)
            (by
              by_cases h0 : len = 0
              · subst h0; simp
              · rw [if_neg h0]
                rcases h3 with h3 | ⟨h4, h5, _⟩
                · exact (h0 h3).elim
                · exact h5.len)
            (fun j hj => by
              refine ⟨?_, hclosed j hj⟩
              rcases h3 with h3 | ⟨h4, h5, _⟩
              · subst h3; simp at hj
              · exact h5.leaf j hj)
            (fun j a b => by
              rcases h3 with h3 | ⟨h4, h5, _⟩
              · subst h3; simp at a
              · have hl0 : len ≠ 0 := by intro h0; subst h0; simp at a
                have hq : (if len = 0 then ([] : List Value) else cs) = cs := if_neg hl0
                simp only [hq] at b ⊢
                exact (h5.r j a b).move hM (hclosed j a))
          rw [e] at this
          exact this
  | .w u, v, hx, hp, hr, hl => by
    simp only [lend] at hp ⊢
    obtain rfl := hx.wv
    cases hx with
    | w _ h => exact ⟨.w _ h, fun h => h⟩
  | .str bs, v, hx, hp, hr, hl => by cases hx; exact ⟨.str bs, fun h => h⟩
  | .sb bs f, v, hx, hp, hr, hl => by
    refine ⟨hx.move (fun b _ hb => ?_) rfl, fun h => h⟩
    rcases mut_locOf.1 hb with hb | hb
    · exact hbad b hb
    · obtain ⟨id', _, hb'⟩ := hpb.mem hb; exact .inr ⟨id', hb'⟩
  | .si bs f, v, hx, hp, hr, hl => by
    refine ⟨hx.move (fun b _ hb => ?_) rfl, fun h => h⟩
    rcases mut_locOf.1 hb with hb | hb
    · exact hbad b hb
    · obtain ⟨id', _, hb'⟩ := hpb.mem hb; exact .inr ⟨id', hb'⟩
  | .sg s xs f, v, hx, hp, hr, hl => by
    refine ⟨hx.move (fun b _ hb => ?_) rfl, fun h => h⟩
    rcases mut_locOf.1 hb with hb | hb
    · exact hbad b hb
    · obtain ⟨id', _, hb'⟩ := hpb.mem hb; exact .inr ⟨id', hb'⟩
  | .cp ls, v, hx, hp, hr, hl => by
    refine ⟨hx.move (fun b _ hb => ?_) rfl, fun h => h⟩
    rcases mut_locOf.1 hb with hb | hb
    · exact hbad b hb
    · obtain ⟨id', _, hb'⟩ := hpb.mem hb; exact .inr ⟨id', hb'⟩
  | .junk, v, hx, hp, hr, hl => ⟨.junk v, fun h => h⟩
theorem lendL_sound {w0 : World} {E : Nat → Prop} {w : World} {loc : Loc} {H : Heap} (he : Env w0 E w loc) (hh : HR w loc H) {ids pb : List Nat} (hpb : PB loc ids pb) {bad' : Nat → Prop} (hbad : ∀ b, bad' b → Mut loc b) :
    ∀ (xs : List AV) (vs : List Value), xs.length = vs.length → (∀ (j : Nat) (h : j < xs.length) (h' : j < vs.length), R w loc xs[j] vs[j]) → (lendL H ids xs).1 → (∀ id ∈ rootsL xs, id ∈ ids) → (∀ id ∈ lentIdsL xs, ∀ b, loc.m id = .here b → ¬ bad' b) →
      (lendL H ids xs).2.length = xs.length ∧ (∀ (j : Nat) (h : j < (lendL H ids xs).2.length) (h' : j < vs.length), R w (locOf pb bad') (lendL H ids xs).2[j] vs[j]) ∧ (∀ (j : Nat) (h : j < (lendL H ids xs).2.length) (h' : j < xs.length), xs[j].leaf = true → (lendL H ids xs).2[j].leaf = true)
  | [], vs, hlen, hx, hp, hr, hl => ⟨rfl, fun j h => by simp [lendL] at h, fun j h => by simp [lendL] at h⟩
  | x :: xs, [], hlen, _, _, _, _ => by simp at hlen
  | x :: xs, v :: vs, hlen, hx, hp, hr, hl => by
    simp only [lendL] at hp ⊢
    obtain ⟨a1, a2⟩ := lend_sound he hh hpb hbad x v (hx 0 (by simp) (by simp)) hp.1 (fun id h => hr id (by simp [rootsL, h])) (fun id h => hl id (by simp [lentIdsL, h]))
    obtain ⟨b1, b2, b3⟩ := lendL_sound he hh hpb hbad xs vs (by simpa using hlen) (fun j h h' => hx (j + 1) (by simpa using h) (by simpa using h')) hp.2 (fun id h => hr id (by simp [rootsL, h])) (fun id h => hl id (by simp [lentIdsL, h]))
    refine ⟨by simp [b1], fun j h h' => ?_, fun j h h' => ?_⟩
    · cases j with
      | zero => exact a1
      | succ j => exact b2 j (by simpa using h) (by simpa using h')
    · cases j with
      | zero => exact a2
      | succ j => exact b3 j (by simpa using h) (by simpa using h')
end

end Ax
end Go.Proofs.Ytgkkgbomhfdbkaa
