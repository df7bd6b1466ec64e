/- That what is said of abstract values holds of the model: fields, elements, pieces, lengths. -/
import Derived.Test.YtgkkgbomhfdbkaaAxJ
namespace Go.Proofs.Ytgkkgbomhfdbkaa
namespace Ax
set_option linter.unusedSimpArgs false
set_option linter.unusedVariables false
section ops
variable {P : Program}

theorem field_get {gs : Array Field} {f off : Nat} {ty : TypeId} (h : (gs.toList.map fun g => (g.offset, g.type))[f]? = some (off, ty)) : ∃ g, gs[f]? = some g ∧ g.offset = off ∧ g.type = ty := by
  simp only [List.getElem?_map, Option.map_eq_some_iff, Prod.mk.injEq] at h
  obtain ⟨g, h1, h2, h3⟩ := h
  exact ⟨g, by simpa using h1, h2, h3⟩

theorem addr_add (b o n : Nat) : Addr.add ⟨b, o, none⟩ n = ⟨b, o + n, none⟩ := by
  by_cases h0 : n = 0
  · subst h0; simp [Addr.add]
  · simp [Addr.add, h0]

theorem field_sound {T : Types} (hT : TOk P T) {w : World} {loc : Loc} {H : Heap} {t : TypeId} {x : AV} {f : Nat} {v : Value} (hx : R w loc x v) (hp : (aField T t x f H).p) :
    ∃ u, (Instr.field t v f).run P w = .ok u w ∧ R w loc (aField T t x f H).x u ∧ (aField T t x f H).H = H := by
  unfold aField at hp ⊢
  cases ht : T t with
  | none => simp [ht, bad] at hp
  | some ti =>
    simp only [ht] at hp ⊢
    have hd := (hT t ti ht).d
    cases hdd : ti.d with
    | struct fs =>
      simp only [hdd] at hp ⊢
      rw [hdd] at hd
      obtain ⟨gs, g1, rfl⟩ := hd
      split at hp
      · rename_i ls
        obtain ⟨cs, rfl, hc⟩ := agg_cells hx
        cases hf : (gs.toList.map fun g => (g.offset, g.type))[f]? with
        | none => simp [hf, bad] at hp
        | some q =>
          obtain ⟨off, ty⟩ := q
          simp only [hf] at hp ⊢
          obtain ⟨g, g2, rfl, rfl⟩ := field_get hf
          cases hty : T g.type with
          | none => simp [hty, bad] at hp
          | some te =>
            simp only [hty] at hp ⊢
            obtain ⟨u, u1, u2, u3⟩ := sub_part (hT _ te hty) hc hp
            exact ⟨u, by simp [Instr.field, run_underlying g1, g2, asAgg, u1], u2, u3⟩
      · exact hp.elim
    | _ => simp [hdd, bad] at hp

theorem fieldAddr_sound {T : Types} (hT : TOk P T) {w : World} {loc : Loc} {H : Heap} (hh : HR w loc H) {t : TypeId} {x : AV} {f : Nat} {v : Value} (hx : R w loc x v) (hp : (aFieldAddr T t x f H).p) :
    ∃ u, (Instr.fieldAt t v f).run P w = .ok u w ∧ R w loc (aFieldAddr T t x f H).x u ∧ (aFieldAddr T t x f H).H = H := by
  unfold aFieldAddr at hp ⊢
  cases ht : T t with
  | none => simp [ht, bad] at hp
  | some ti =>
    simp only [ht] at hp ⊢
    have hd := (hT t ti ht).d
    cases hdd : ti.d with
    | struct fs =>
      simp only [hdd] at hp ⊢
      rw [hdd] at hd
      obtain ⟨gs, g1, rfl⟩ := hd
      cases hf : (gs.toList.map fun g => (g.offset, g.type))[f]? with
      | none => simp [hf, bad] at hp
      | some q =>
        obtain ⟨off, ty⟩ := q
        simp only [hf] at hp ⊢
        obtain ⟨g, g2, rfl, rfl⟩ := field_get hf
        cases hty : T g.type with
        | none => simp [hty, bad] at hp
        | some te =>
          simp only [hty] at hp ⊢
          have hsz := run_sizeOf' (hT _ te hty) w
          split at hp
          · rename_i id z i k
            cases hl : look H id with
            | none => simp [hl, bad] at hp
            | some blk =>
              simp only [hl] at hp ⊢
              cases hx with
              | rf _ _ _ _ _ h =>
                have hfr : loc.m id ≠ .free := by intro e; simp [Points, e] at h
                obtain ⟨hok, hn | ⟨b, hb, hlies⟩⟩ := hh.get hl hfr
                · simp [Points, hn.1] at h
                · simp only [Points, hb] at h
                  subst h
                  refine ⟨.pointer (some ⟨b, i * z + k + g.offset, none⟩), ?_, .rf _ _ _ _ _ (by simp [Points, hb, Nat.add_assoc]), by simp⟩
                  simp [Instr.fieldAt, run_underlying g1, g2, Instr.sureAddr, fieldPlace, hsz, Nat.ne_of_gt hp, addr_add]
          · rename_i ls
            cases hx with
            | cp _ a cs hc hn hl hle h =>
              obtain h0 | ⟨b, o, ha, hm, hb, hcc⟩ := hc.lies
              · exact (hn h0).elim
              · injection ha with ha; subst ha
                refine ⟨.pointer (some ⟨b, o + g.offset, none⟩), ?_, ?_, by simp⟩
                · simp [Instr.fieldAt, run_underlying g1, g2, Instr.sureAddr, fieldPlace, hsz, Nat.ne_of_gt hp.1, addr_add]
                · refine .cp _ _ (cs.drop g.offset) ⟨.inr ⟨b, o + g.offset, rfl, hm, hb, fun j hj => ?_⟩⟩ ?_ (by simp [hl]) (fun j hj => ?_) (fun j h1 h2 => ?_)
                  · rw [Nat.add_assoc, hcc (g.offset + j) (by simp at hj; omega)]; simp
                  · intro h0
                    have : (cs.drop g.offset).length = 0 := by rw [h0]; rfl
                    simp at this; omega
                  · have := hle (g.offset + j) (by simp at hj; omega)
                    simpa using this
                  · have := h (g.offset + j) (by simp at h1; omega) (by simp at h2; omega)
                    simpa using this
          · exact hp.elim
    | _ => simp [hdd, bad] at hp

/-- An element of what is seen. -/
theorem indexAddr_sound {T : Types} (hT : TOk P T) {w : World} {loc : Loc} {H : Heap} (hh : HR w loc H) {t : TypeId} {x i : AV} {v vi : Value} (hx : R w loc x v) (hi : R w loc i vi) (hp : (aIndexAddr T t x i H).p) :
    ∃ u, (Instr.indexAt t v vi).run P w = .ok u w ∧ R w loc (aIndexAddr T t x i H).x u ∧ (aIndexAddr T t x i H).H = H := by
  unfold aIndexAddr at hp ⊢
  cases ht : T t with
  | none => simp [ht, bad] at hp
  | some ti =>
  simp only [ht] at hp ⊢
  split at hp
  · rename_i ti' k n he
    injection he with he; subst he
    obtain rfl := hi.wv
    have hd := (hT t ti ht).d
    cases hdd : ti.d with
    | slice e =>
      simp only [hdd] at hp ⊢
      rw [hdd] at hd
      have hd : P.underlying t = some (.slice e) := hd
      cases hte : T e with
      | none => simp [hte, bad] at hp
      | some te =>
        simp only [hte] at hp ⊢
        have hsz := run_sizeOf' (hT _ te hte) w
        -- a slice that nobody writes
        have imm : ∀ (a : Option Addr) (len cap : Nat) (cs : List Value) (ls : List AV) (s : Nat), Cells w loc a cs → CellsOf w loc ls cs → (∀ (j : Nat) (h : j < ls.length), ls[j].closed = true) → te.size = s → 0 < s → 0 ≤ n → n.toNat < len → cs.length = len * s →
            ∃ u, (Instr.indexAt t (.slice a len cap) (.int k n)).run P w = .ok u w ∧ R w loc (.cp ((ls.drop (n.toNat * s)).take s)) u := by
          intro a len cap cs ls s hc hl hcl hs h0 hn hlt hlen
          have hmul := Nat.mul_le_mul_right s (show n.toNat + 1 ≤ len from hlt)
          rw [Nat.succ_mul] at hmul
          have hll := hl.len
          obtain h1 | ⟨b, o, rfl, hm, hb, hcc⟩ := hc.lies
          · subst h1; simp at hlen; omega
          · refine ⟨.pointer (some ⟨b, o + n.toNat * s, none⟩), ?_, ?_⟩
            · have hnl : n < len := by omega
              simp [Instr.indexAt, asIntOf, run_underlying hd, hn, hnl, hsz, hs, addr_add]
            · refine .cp _ _ ((cs.drop (n.toNat * s)).take s) ⟨.inr ⟨b, o + n.toNat * s, rfl, hm, hb, fun j hj => ?_⟩⟩ ?_ (by simp; omega) (fun j hj => ?_) (fun j h1 h2 => ?_)
              · rw [Nat.add_assoc, hcc (n.toNat * s + j) (by simp at hj; omega)]; simp
              · intro h1
                have : ((cs.drop (n.toNat * s)).take s).length = 0 := by rw [h1]; rfl
                simp at this; omega
              · have h3 := hl.leaf (n.toNat * s + j) (by simp at hj; omega)
                have h4 := hcl (n.toNat * s + j) (by simp at hj; omega)
                exact ⟨by simpa using h3, by simpa using h4⟩
              · have := hl.r (n.toNat * s + j) (by simp at h1; omega) (by simp at h2; omega)
                simpa using this
        split at hp
        · rename_i bs full
          obtain ⟨hn, hs, hlt⟩ := hp
          cases hx with
          | sb _ _ a cap hdim hc =>
            obtain ⟨u, u1, u2⟩ := imm a bs.length cap (bs.map byte) _ 1 hc (bytes_cellsOf bs) (fun j hj => by simp [AV.closed]) hs Nat.one_pos hn hlt (by simp)
            refine ⟨u, u1, ?_, rfl⟩
            have e : ((bs.map fun b => AV.w (byte b)).drop (n.toNat * 1)).take 1 = [.w (byte (bs.getD n.toNat 0))] := by
              rw [Nat.mul_one, List.drop_eq_getElem_cons (by simpa using hlt)]
              simp [List.getD, List.getElem?_eq_getElem hlt]
            rw [← e]; exact u2
        · rename_i ns full
          obtain ⟨hn, hs, hlt⟩ := hp
          cases hx with
          | si _ _ a cap hdim hc =>
            obtain ⟨u, u1, u2⟩ := imm a ns.length cap (ns.map word) _ 1 hc (words_cellsOf ns) (fun j hj => by simp [AV.closed]) hs Nat.one_pos hn hlt (by simp)
            refine ⟨u, u1, ?_, rfl⟩
            have e : ((ns.map fun b => AV.w (word b)).drop (n.toNat * 1)).take 1 = [.w (word (ns.getD n.toNat 0))] := by
              rw [Nat.mul_one, List.drop_eq_getElem_cons (by simpa using hlt)]
              simp [List.getD, List.getElem?_eq_getElem hlt]
            rw [← e]; exact u2
        · rename_i s xs full
          obtain ⟨hn, hs, h0, hlt⟩ := hp
          cases hx with
          | sg _ _ _ a cap cs hdim hls hc hl hxs h =>
            have hok : Blk.ok (.g s xs) := ⟨h0, hls⟩
            have hfl := flat_len hok
            simp only [Blk.flat, Blk.len, Blk.size] at hfl
            obtain ⟨u, u1, u2⟩ := imm a xs.length cap cs _ s hc ⟨hl, fun j hj => (hxs j hj).1, h⟩ (fun j hj => (hxs j hj).2) hs h0 hn hlt (by rw [← hl, hfl])
            refine ⟨u, u1, ?_, rfl⟩
            obtain ⟨e1, e2, e3⟩ := flat_elem hok (i := n.toNat) hlt
            simp only [elemLeaves, Blk.size, Blk.flat] at e1 e2 e3
            have e : ((xs.flatMap AV.leaves).drop (n.toNat * s)).take s = (slot xs n.toNat).leaves := by
              refine List.ext_getElem (by rw [e1, List.length_take, List.length_drop]; omega) fun j h1 h2 => ?_
              have := e3 j h2 (by omega)
              simpa using this
            rw [← e]; exact u2
        · rename_i id s off len
          cases hl : look H id with
          | none => simp [hl, bad] at hp
          | some blk =>
            simp only [hl] at hp ⊢
            obtain ⟨hn, hs, hlt⟩ := hp
            cases hx with
            | ms _ _ _ _ _ h =>
              have hfr : loc.m id ≠ .free := by intro e; simp [Owns, e] at h
              obtain ⟨hok, hnl | ⟨b, hb, hlies⟩⟩ := hh.get hl hfr
              · unfold Owns at h; rw [hnl.1] at h; omega
              · unfold Owns at h; rw [hb] at h
                obtain ⟨o, cap, cur0, e0, fz0, rfl, ho, hh0, hsz0, hlc, htop⟩ := h
                have ho := ho (by omega)
                subst ho
                refine ⟨.pointer (some ⟨b, (off + n.toNat) * s, none⟩), ?_, .rf _ _ _ _ _ (by simp [Points, hb]), by simp⟩
                have hnl : n < len := by omega
                simp [Instr.indexAt, asIntOf, run_underlying hd, hn, hnl, hsz, hs, addr_add, Nat.add_mul]
        · exact hp.elim
    | arr m e =>
      simp only [hdd] at hp ⊢
      rw [hdd] at hd
      have hd : P.underlying t = some (.array m e) := hd
      cases hte : T e with
      | none => simp [hte, bad] at hp
      | some te =>
        simp only [hte] at hp ⊢
        have hsz := run_sizeOf' (hT _ te hte) w
        split at hp
        · rename_i id s j f
          cases hl : look H id with
          | none => simp [hl, bad] at hp
          | some blk =>
            simp only [hl] at hp ⊢
            obtain ⟨hn, hlt⟩ := hp
            cases hx with
            | rf _ _ _ _ _ h =>
              have hfr : loc.m id ≠ .free := by intro e; simp [Points, e] at h
              obtain ⟨hok, hnl | ⟨b, hb, hlies⟩⟩ := hh.get hl hfr
              · simp [Points, hnl.1] at h
              · simp only [Points, hb] at h
                subst h
                refine ⟨.pointer (some ⟨b, j * s + f + n.toNat * te.size, none⟩), ?_, .rf _ _ _ _ _ (by simp [Points, hb, Nat.add_assoc]), by simp⟩
                simp [Instr.indexAt, asIntOf, run_underlying hd, hn, hlt, hsz, addr_add, Instr.sureAddr]
        · rename_i ls
          obtain ⟨hn, hlt, hlen⟩ := hp
          cases hx with
          | cp _ a cs hc hne hl hle h =>
            obtain h0 | ⟨b, o, ha, hm, hb, hcc⟩ := hc.lies
            · exact (hne h0).elim
            · injection ha with ha; subst ha
              refine ⟨.pointer (some ⟨b, o + n.toNat * te.size, none⟩), ?_, ?_, rfl⟩
              · simp [Instr.indexAt, asIntOf, run_underlying hd, hn, hlt, hsz, addr_add, Instr.sureAddr]
              · refine .cp _ _ (cs.drop (n.toNat * te.size)) ⟨.inr ⟨b, o + n.toNat * te.size, rfl, hm, hb, fun j hj => ?_⟩⟩ ?_ (by simp [hl]) (fun j hj => ?_) (fun j h1 h2 => ?_)
                · rw [Nat.add_assoc, hcc (n.toNat * te.size + j) (by simp at hj; omega)]; simp
                · intro h0
                  have : (cs.drop (n.toNat * te.size)).length = 0 := by rw [h0]; rfl
                  simp at this; omega
                · have := hle (n.toNat * te.size + j) (by simp at hj; omega)
                  simpa using this
                · have := h (n.toNat * te.size + j) (by simp at h1; omega) (by simp at h2; omega)
                  simpa using this
        · exact hp.elim
    | _ => simp [hdd, bad] at hp
  · exact hp.elim

theorem index_sound {T : Types} (hT : TOk P T) {w : World} {loc : Loc} {H : Heap} {t : TypeId} {x i : AV} {v vi : Value} (hx : R w loc x v) (hi : R w loc i vi) (hp : (aIndex T t x i H).p) :
    ∃ u, (Instr.index t v vi).run P w = .ok u w ∧ R w loc (aIndex T t x i H).x u ∧ (aIndex T t x i H).H = H := by
  unfold aIndex at hp ⊢
  cases ht : T t with
  | none => simp [ht, bad] at hp
  | some ti =>
  simp only [ht] at hp ⊢
  split at hp
  · rename_i ti' k n he
    injection he with he; subst he
    obtain rfl := hi.wv
    have hd := (hT t ti ht).d
    cases hdd : ti.d with
    | str =>
      simp only [hdd] at hp ⊢
      rw [hdd] at hd
      have hd : P.underlying t = some .string := hd
      split at hp
      · rename_i bs
        obtain ⟨hn, hlt⟩ := hp
        cases hx
        refine ⟨byte (bs.getD n.toNat 0), ?_, .w _ rfl, rfl⟩
        have hs : n.toNat < (ByteArray.mk bs.toArray).size := by simpa [ByteArray.size] using hlt
        have hg : (ByteArray.mk bs.toArray)[n.toNat]? = some (bs.getD n.toNat 0) := by
          rw [ByteArray.getElem?_lt' _ _ hs]
          simp [List.getD, List.getElem?_eq_getElem hlt, ByteArray.getElem_eq_getElem_data]
        simp [Instr.index, asIntOf, run_underlying hd, hn, hg, byte]
      · exact hp.elim
    | arr m e =>
      simp only [hdd] at hp ⊢
      rw [hdd] at hd
      have hd : P.underlying t = some (.array m e) := hd
      split at hp
      · rename_i ls
        obtain ⟨cs, rfl, hc⟩ := agg_cells hx
        cases hte : T e with
        | none => simp [hte, bad] at hp
        | some te =>
          simp only [hte, Out.and] at hp ⊢
          obtain ⟨⟨hn, hlt⟩, hp⟩ := hp
          have hsz := run_sizeOf' (hT _ te hte) w
          obtain ⟨u, u1, u2, u3⟩ := sub_part (hT _ te hte) hc hp
          exact ⟨u, by simp [Instr.index, asIntOf, run_underlying hd, hn, hlt, hsz, u1], u2, u3⟩
      · exact hp.elim
    | _ => simp [hdd, bad] at hp
  · exact hp.elim

theorem extract_sound {w : World} {loc : Loc} {H : Heap} {x : AV} {i : Nat} {v : Value} (hx : R w loc x v) (hp : (aExtract x i H).p) :
    ∃ u, (Instr.extract v i).run P w = .ok u w ∧ R w loc (aExtract x i H).x u ∧ (aExtract x i H).H = H := by
  unfold aExtract at hp ⊢
  cases hx with
  | tup xs cs hl h =>
    simp only at hp ⊢
    have hi : i < cs.length := by omega
    refine ⟨cs[i], by simp [Instr.extract, List.getElem?_eq_getElem hi], ?_, by simp⟩
    rw [slot_lt hp]; exact h i hp hi
  | _ => simp [bad] at hp

theorem len_sound {T : Types} (hT : TOk P T) {w : World} {loc : Loc} {H : Heap} (hh : HR w loc H) {t u : TypeId} {x : AV} {v : Value} (hx : R w loc x v) (hp : (aLen T t x H).p) :
    ∃ u', (Builtin.len_ #[t] u #[v]).run P w = .ok u' w ∧ R w loc (aLen T t x H).x u' ∧ (aLen T t x H).H = H := by
  unfold aLen at hp ⊢
  cases ht : T t with
  | none => simp [ht, bad] at hp
  | some ti =>
    simp only [ht] at hp ⊢
    have hd := (hT t ti ht).d
    cases hdd : ti.d with
    | str =>
      simp only [hdd] at hp ⊢
      rw [hdd] at hd
      have hd : P.underlying t = some .string := hd
      split at hp
      · rename_i bs
        cases hx
        exact ⟨word bs.length, by rw [run_len_string w t u _ hd]; rfl, .w _ rfl, rfl⟩
      · exact hp.elim
    | slice e =>
      simp only [hdd] at hp ⊢
      rw [hdd] at hd
      have hd : P.underlying t = some (.slice e) := hd
      have sl : ∀ (a : Option Addr) (n c : Nat), (Builtin.len_ #[t] u #[.slice a n c]).run P w = .ok (word n) w := fun a n c => by simp [Builtin.len_, run_underlying hd, goInt, word]
      split at hp
      · cases hx; exact ⟨_, sl _ _ _, .w _ rfl, rfl⟩
      · cases hx; exact ⟨_, sl _ _ _, .w _ rfl, rfl⟩
      · cases hx; exact ⟨_, sl _ _ _, .w _ rfl, rfl⟩
      · rename_i id s off len
        cases hl : look H id with
        | none => simp [hl, bad] at hp
        | some blk =>
          simp only [hl] at hp ⊢
          cases hx with
          | ms _ _ _ _ _ h =>
            have hfr : loc.m id ≠ .free := by intro e; simp [Owns, e] at h
            obtain ⟨hok, hnl | ⟨b, hb, hlies⟩⟩ := hh.get hl hfr
            · unfold Owns at h; rw [hnl.1] at h
              obtain ⟨rfl, a, rfl⟩ := h
              exact ⟨_, sl _ _ _, .w _ rfl, by simp⟩
            · unfold Owns at h; rw [hb] at h
              obtain ⟨o, cap, cur0, e0, fz0, rfl, _⟩ := h
              exact ⟨_, sl _ _ _, .w _ rfl, by simp⟩
      · exact hp.elim
    | arr n e =>
      simp only [hdd] at hp ⊢
      rw [hdd] at hd
      have hd : P.underlying t = some (.array n e) := hd
      exact ⟨_, by simp [Builtin.len_, run_underlying hd, goInt]; rfl, .w _ rfl, by simp⟩
    | _ => simp [hdd, bad] at hp

theorem min_sound {w : World} {loc : Loc} {H : Heap} {k k' : IntKind} {x y : Int} (ts : Array TypeId) (u : TypeId) :
    (Builtin.min_ ts u #[.int k x, .int k' y]).run P w = .ok (.int k (if y < x then y else x)) w := by
  simp [Builtin.min_, Builtin.min2]

theorem max_sound {w : World} {loc : Loc} {H : Heap} {k k' : IntKind} {x y : Int} (ts : Array TypeId) (u : TypeId) :
    (Builtin.max_ ts u #[.int k x, .int k' y]).run P w = .ok (.int k (if y > x then y else x)) w := by
  simp [Builtin.max_, Builtin.max2]

end ops
end Ax
end Go.Proofs.Ytgkkgbomhfdbkaa
