/- That what is said of abstract values holds of the model: slices seen as lists; texts; parts of slices; lengths. -/
import Derived.Test.YtgkkgbomhfdbkaaAxH
import Derived.Laws.BytesArg
namespace Go.Proofs.Ytgkkgbomhfdbkaa
namespace Ax
section ops
variable {P : Program}

/-- A slice's header, and the cells that it shows. -/
structure Seen (w : World) (loc : Loc) (v : Value) (n s : Nat) (fl : List AV) : Prop where
  seen : ∃ a cap, v = .slice a n cap ∧ n ≤ cap ∧ cap ≤ maxLen ∧ (n = 0 ∨ ∃ b o cs, a = some ⟨b, o, none⟩ ∧ b < w.heap.size ∧ cs.length = n * s ∧ (∀ (j : Nat) (hj : j < cs.length), w.cell? ⟨b, o + j, none⟩ = some cs[j]) ∧ CellsOf w loc fl cs)
  len : fl.length = n * s

theorem seen_ms {w : World} {loc : Loc} {H : Heap} (hh : HR w loc H) {id s off len : Nat} {blk : Blk} {v : Value} (h : Owns w loc id s off len v) (hl : look H id = some blk) (hs : blk.size = s) (hle : off + len ≤ blk.len) :
    Seen w loc v len s ((blk.flat.drop (off * s)).take (len * s)) := by
  have hf : loc.m id ≠ .free := by intro e; simp [Owns, e] at h
  obtain ⟨hok, hn | ⟨b, hb, hlies⟩⟩ := hh.get hl hf
  · unfold Owns at h; rw [hn.1] at h
    obtain ⟨h1, a, rfl⟩ := h
    subst h1
    exact ⟨⟨a, 0, rfl, Nat.le_refl _, Nat.zero_le _, .inl rfl⟩, by simp⟩
  · unfold Owns at h; rw [hb] at h
    obtain ⟨o, cap, cur0, e0, fz0, rfl, ho, hh0, hsz, hlc, htop⟩ := h
    obtain ⟨cur, e, fz, hheap, hfz, hone, hlen, hr⟩ := hlies.lies
    rw [hh0] at hheap; injection hheap with hheap; injection hheap with q1 q2 q3; subst q1 q2 q3
    have hfl := flat_len hok
    rw [hs] at hfl
    have hmul : off * s + len * s ≤ blk.len * s := by rw [← Nat.add_mul]; exact Nat.mul_le_mul_right s hle
    have hll : ((blk.flat.drop (off * s)).take (len * s)).length = len * s := by simp; omega
    refine ⟨⟨_, cap, rfl, hlc, htop, ?_⟩, hll⟩
    by_cases h0 : len = 0
    · exact .inl h0
    refine .inr ⟨b, off * s, (cur0.toList.drop (off * s)).take (len * s), by rw [ho (by omega)], ?_, by simp; omega, fun j hj => ?_, ⟨by rw [hll]; simp; omega, fun j hj => ?_, fun j h1 h2 => ?_⟩⟩
    · have := Array.getElem?_eq_some_iff.1 hh0; exact this.1
    · have hj2 : off * s + j < cur0.size := by simp at hj; omega
      simp [World.cell?, hh0, Array.getElem?_eq_getElem hj2]
    · have := hr (off * s + j) (by simp at hj; omega) (by simp at hj; omega)
      simpa using this.1
    · have := hr (off * s + j) (by simp at h1; omega) (by simp at h1; omega)
      simpa using this.2

theorem cells_seen {w : World} {loc : Loc} {a : Option Addr} {cap n s : Nat} {full : Bool} {cs : List Value} {fl : List AV} (hd : Dim n cap full) (hc : Cells w loc a cs) (hl : CellsOf w loc fl cs) (hn : cs.length = n * s) (hs : 0 < s) : Seen w loc (.slice a n cap) n s fl := by
  refine ⟨⟨a, cap, rfl, hd.le, hd.top, ?_⟩, by rw [hl.len, hn]⟩
  obtain h | ⟨b, o, rfl, hm, hb, hcc⟩ := hc.lies
  · left; subst h
    simp at hn
    rcases Nat.mul_eq_zero.1 hn.symm with h | h
    · exact h
    · omega
  · exact .inr ⟨b, o, cs, rfl, hb, hn, hcc, hl⟩

theorem bytes_cellsOf {w : World} {loc : Loc} (bs : List UInt8) : CellsOf w loc (bs.map fun b => .w (byte b)) (bs.map byte) :=
  ⟨by simp, fun j hj => by simp [AV.leaf, byte, one], fun j h1 h2 => by simp only [List.getElem_map]; exact .w _ rfl⟩

theorem words_cellsOf {w : World} {loc : Loc} (ns : List Int) : CellsOf w loc (ns.map fun n => .w (word n)) (ns.map word) :=
  ⟨by simp, fun j hj => by simp [AV.leaf, word, one], fun j h1 h2 => by simp only [List.getElem_map]; exact .w _ rfl⟩

theorem viewB_sound {w : World} {loc : Loc} {H : Heap} (hh : HR w loc H) {x : AV} {v : Value} (hx : R w loc x v) (hp : (viewB H x).1) : Seen w loc v (viewB H x).2.length 1 ((viewB H x).2.map fun b => .w (byte b)) := by
  cases hx with
  | sb bs full a cap hd hc =>
    simp only [viewB]
    exact cells_seen hd hc (bytes_cellsOf bs) (by simp) Nat.one_pos
  | sg s xs full a cap cs hd hs hc hl hx h =>
    cases xs with
    | nil =>
      simp only [viewB]
      exact ⟨⟨a, cap, rfl, hd.le, hd.top, .inl rfl⟩, rfl⟩
    | cons => simp [viewB] at hp
  | ms id s off len v h =>
    simp only [viewB] at hp ⊢
    cases hl : look H id with
    | none => simp [hl] at hp
    | some blk =>
      cases blk with
      | b bs =>
        simp only [hl] at hp ⊢
        obtain ⟨rfl, hle⟩ := hp
        have := seen_ms hh h hl rfl hle
        have e : ((bs.drop off).take len).length = len := by simp; omega
        rw [e]
        simpa [Blk.flat, List.map_take, List.map_drop] using this
      | i ns => simp [hl] at hp
      | g s xs => simp [hl] at hp
  | _ => simp [viewB] at hp

theorem viewI_sound {w : World} {loc : Loc} {H : Heap} (hh : HR w loc H) {x : AV} {v : Value} (hx : R w loc x v) (hp : (viewI H x).1) : Seen w loc v (viewI H x).2.length 1 ((viewI H x).2.map fun b => .w (word b)) := by
  cases hx with
  | si bs full a cap hd hc =>
    simp only [viewI]
    exact cells_seen hd hc (words_cellsOf bs) (by simp) Nat.one_pos
  | sg s xs full a cap cs hd hs hc hl hx h =>
    cases xs with
    | nil =>
      simp only [viewI]
      exact ⟨⟨a, cap, rfl, hd.le, hd.top, .inl rfl⟩, rfl⟩
    | cons => simp [viewI] at hp
  | ms id s off len v h =>
    simp only [viewI] at hp ⊢
    cases hl : look H id with
    | none => simp [hl] at hp
    | some blk =>
      cases blk with
      | i ns =>
        simp only [hl] at hp ⊢
        obtain ⟨rfl, hle⟩ := hp
        have := seen_ms hh h hl rfl hle
        have e : ((ns.drop off).take len).length = len := by simp; omega
        rw [e]
        simpa [Blk.flat, List.map_take, List.map_drop] using this
      | b bs => simp [hl] at hp
      | g s xs => simp [hl] at hp
  | _ => simp [viewI] at hp

theorem viewG_sound {s : Nat} (hs0 : 0 < s) {w : World} {loc : Loc} {H : Heap} (hh : HR w loc H) {x : AV} {v : Value} (hx : R w loc x v) (hp : (viewG s H x).1) :
    Seen w loc v (viewG s H x).2.length s ((viewG s H x).2.flatMap AV.leaves) ∧ ∀ y ∈ (viewG s H x).2, y.leaves.length = s := by
  cases hx with
  | sg s' xs full a cap cs hd hs hc hl hx h =>
    simp only [viewG] at hp ⊢
    rcases hp with rfl | rfl
    · exact ⟨⟨⟨a, cap, rfl, hd.le, hd.top, .inl rfl⟩, by simp⟩, by simp⟩
    · refine ⟨cells_seen hd hc ⟨hl, fun j hj => (hx j hj).1, h⟩ ?_ hs0, hs⟩
      rw [← hl]
      have := flat_len (blk := .g s' xs) ⟨hs0, hs⟩
      simpa [Blk.flat, Blk.len, Blk.size] using this
  | ms id s' off len v h =>
    simp only [viewG] at hp ⊢
    cases hl : look H id with
    | none => simp [hl] at hp
    | some blk =>
      cases blk with
      | g s'' xs =>
        simp only [hl] at hp ⊢
        obtain ⟨rfl, rfl, hle⟩ := hp
        have hf : loc.m id ≠ .free := by intro e; simp [Owns, e] at h
        obtain ⟨hok, _⟩ := hh.get hl hf
        have := seen_ms hh h hl rfl hle
        have e : ((xs.drop off).take len).length = len := by simp; omega
        rw [e]
        refine ⟨?_, fun y hy => hok.2 y (List.mem_of_mem_drop (List.mem_of_mem_take hy))⟩
        rw [flatMap_take _ _ (fun y hy => hok.2 y (List.mem_of_mem_drop hy)), flatMap_drop _ _ hok.2]
        exact this
      | b bs => simp [hl] at hp
      | i ns => simp [hl] at hp
  | _ => simp [viewG] at hp

theorem R.wv {w : World} {loc : Loc} {u v : Value} (h : R w loc (.w u) v) : v = u := by cases h; rfl

theorem ofNat_back (bs : List UInt8) : (bs.map fun b => (b.toNat : Int)).map (fun n => UInt8.ofNat n.toNat) = bs := by
  rw [List.map_map]
  conv => rhs; rw [← List.map_id bs]
  refine List.map_congr_left fun b _ => ?_
  simp

/-- The bytes' cells, by value. -/
theorem seen_bytes {w : World} {loc : Loc} {bs : List UInt8} {cs : List Value} (h : CellsOf w loc (bs.map fun b => .w (byte b)) cs) : cs = bs.map byte := by
  refine List.ext_getElem (by have := h.len; simpa using this.symm) fun j h1 h2 => ?_
  have := h.r j (by simpa using h2) h1
  simp only [List.getElem_map] at this ⊢
  exact this.wv

theorem run_bytes_to_string {w : World} {loc : Loc} {v : Value} {bs : List UInt8} {src dst e : TypeId} (hs : P.underlying src = some (.slice e)) (he : P.underlying e = some (.int .u8)) (hd : P.underlying dst = some .string) (h : Seen w loc v bs.length 1 (bs.map fun b => .w (byte b))) :
    (convert src dst v).run P w = .ok (.string ⟨bs.toArray⟩) w := by
  obtain ⟨a, cap, rfl, _, _, h0 | ⟨b, o, cs, rfl, _, hcl, hc, hco⟩⟩ := h.seen
  · have : bs = [] := List.length_eq_zero_iff.1 h0
    subst this
    rw [run_convert_bytes_string w src dst e a _ cap hs he hd]
    cases a with
    | none =>
      simp [Conv.bytesToString, ByteArray.empty, ByteArray.emptyWithCapacity]
      rfl
    | some a =>
      rw [run_bytesToString w a _ cap [] (by simp [loadCells, loadCellsFrom])]
      simp [ByteArray.empty, ByteArray.emptyWithCapacity]
      rfl
  · have hcs := seen_bytes hco
    subst hcs
    rw [run_convert_bytes_arg w src e hs he b o bs.length cap (bs.map fun b => (b.toNat : Int)) (by simp) (fun i hi => ?_) dst hd]
    · unfold strOfNums; rw [ofNat_back]
    · rw [hc i (by simpa using hi)]
      simp [byte, List.getD, List.getElem?_eq_getElem hi]

end ops
end Ax
end Go.Proofs.Ytgkkgbomhfdbkaa
