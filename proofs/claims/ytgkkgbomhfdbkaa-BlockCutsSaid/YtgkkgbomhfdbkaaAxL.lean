/- That what is said of abstract values holds of the model: pieces of slices and texts; conversions; new slices. -/
import Derived.Test.YtgkkgbomhfdbkaaAxK
namespace Go.Proofs.Ytgkkgbomhfdbkaa
namespace Ax
set_option linter.unusedSimpArgs false
set_option linter.unusedVariables false
section ops
variable {P : Program}

theorem bnd_none (d : Nat) : bnd none d = (True, d) := rfl

/-- A bound of a piece, as it is given. -/
theorem bound_run {w : World} {loc : Loc} {o : Option AV} {vo : Option Value} {d y : Nat} {code : BoundsCode} (hr : match o, vo with | none, none => True | some x, some v => R w loc x v | _, _ => False) (hp : (bnd o d).1) (hle : (bnd o d).2 ≤ y) :
    (vo = none ∧ o = none ∧ (bnd o d).2 = d) ∨ ∃ v, vo = some v ∧ o.isSome = true ∧ (Instr.sliceBound v y code).run P w = .ok (bnd o d).2 w := by
  cases o with
  | none => cases vo with
    | none => exact .inl ⟨rfl, rfl, rfl⟩
    | some v => exact hr.elim
  | some x => cases vo with
    | none => exact hr.elim
    | some v =>
      right
      refine ⟨v, rfl, rfl, ?_⟩
      unfold bnd at hp hle ⊢
      split at hp
      · rename_i h; cases h
      · rename_i k n h
        injection h with h; subst h
        simp only at hle ⊢
        obtain rfl := hr.wv
        have hp : 0 ≤ n := hp
        have hle2 : n ≤ y := by omega
        simp [Instr.sliceBound, asIntOf, hp, hle2]
      · exact hp.elim

def OR (w : World) (loc : Loc) (o : Option AV) (vo : Option Value) : Prop := match o, vo with | none, none => True | some x, some v => R w loc x v | _, _ => False

theorem bounds_run {w : World} {loc : Loc} {lo hi mx : Option AV} {vl vh vm : Option Value} {n cap : Nat} (isS : Bool) (hl : OR w loc lo vl) (hh : OR w loc hi vh) (hm : OR w loc mx vm) (hp : bnds lo hi mx n) (hc : n ≤ cap) (hhm : mx.isSome = true → hi.isSome = true) :
    (Instr.sliceBounds isS n cap vl vh vm).run P w = .ok ((bnd lo 0).2, (bnd hi n).2, if mx.isSome = true then (bnd mx n).2 else cap) w := by
  obtain ⟨p1, p2, p3, q1, q2, q3⟩ := hp
  unfold Instr.sliceBounds
  rcases bound_run (P := P) (y := cap) (code := if isS then .slice3Acap else .slice3Alen) hm p3 (by omega) with ⟨rfl, rfl, e3⟩ | ⟨v3, rfl, e3, r3⟩
  · rcases bound_run (P := P) (y := cap) (code := if isS then .sliceAcap else .sliceAlen) hh p2 (by omega) with ⟨rfl, rfl, e2⟩ | ⟨v2, rfl, e2, r2⟩
    · rcases bound_run (P := P) (y := n) (code := .sliceB) hl p1 (by rw [← e2]; exact q1) with ⟨rfl, rfl, e1⟩ | ⟨v1, rfl, e1, r1⟩
      · simp [bnd_none]
      · simp [bnd_none] at r1 ⊢; simp [r1]
    · rcases bound_run (P := P) (y := (bnd hi n).2) (code := .sliceB) hl p1 q1 with ⟨rfl, rfl, e1⟩ | ⟨v1, rfl, e1, r1⟩
      · simp [r2, bnd_none]
      · simp [r2, r1]
  · rcases bound_run (P := P) (y := (bnd mx n).2) (code := .slice3B) hh p2 q2 with ⟨rfl, rfl, e2⟩ | ⟨v2, rfl, e2, r2⟩
    · have := hhm e3; simp at this
    · rcases bound_run (P := P) (y := (bnd hi n).2) (code := .slice3C) hl p1 q1 with ⟨rfl, rfl, e1⟩ | ⟨v1, rfl, e1, r1⟩
      · simp [r3, r2, e3, bnd_none]
      · simp [r3, r2, r1, e3]

theorem slice_run {t e : TypeId} {te : TyI} (hd : P.underlying t = some (.slice e)) (hte : TyR P e te) {w : World} {a : Option Addr} {n cap l h m : Nat} {vl vh vm : Option Value} (hb : (Instr.sliceBounds true n cap vl vh vm).run P w = .ok (l, h, m) w) :
    (Instr.sliceAt t (.slice a n cap) vl vh vm).run P w = .ok (.slice (if m = l then a else a.map (·.add (l * te.size))) (h - l) (m - l)) w := by
  simp [Instr.sliceAt, run_underlying hd, Instr.slice, hb, run_sizeOf' hte w]

/-- Cells of a piece. -/
theorem Cells.piece {w : World} {loc : Loc} {a : Option Addr} {cs : List Value} (h : Cells w loc a cs) (i k : Nat) (c : Prop) [Decidable c] (hcc : c → (cs.drop i).take k = []) : Cells w loc (if c then a else a.map (·.add i)) ((cs.drop i).take k) := by
  by_cases h0 : (cs.drop i).take k = []
  · exact ⟨.inl h0⟩
  · rw [if_neg (fun hc => h0 (hcc hc))]
    obtain h1 | ⟨b, o, rfl, hm, hb, hcs⟩ := h.lies
    · subst h1; simp at h0
    · refine ⟨.inr ⟨b, o + i, by simp [addr_add], hm, hb, fun j hj => ?_⟩⟩
      rw [Nat.add_assoc, hcs (i + j) (by simp at hj; omega)]; simp

theorem full3_sound {full : Bool} {hi mx : Option AV} {n cap l h m : Nat} (hfull : full = true → cap = n) (hh : h = (bnd hi n).2) (hm : m = if mx.isSome = true then (bnd mx n).2 else cap) (hf : full3 full hi mx (bnd hi n).2 (bnd mx n).2 = true) : m - l = h - l := by
  unfold full3 at hf
  cases mx with
  | some x =>
    have : (bnd (some x) n).2 = (bnd hi n).2 := by simpa using hf
    rw [hm, hh, if_pos (by rfl), this]
  | none =>
    cases hi with
    | some x => simp at hf
    | none =>
      have := hfull hf
      rw [hm, hh]; simp [bnd, this]

theorem slice_sound {T : Types} (hT : TOk P T) {w : World} {loc : Loc} {H : Heap} {t : TypeId} {x : AV} {lo hi mx : Option AV} {v : Value} {vl vh vm : Option Value} (hx : R w loc x v) (hl : OR w loc lo vl) (hh : OR w loc hi vh) (hm : OR w loc mx vm) (hhm : mx.isSome = true → hi.isSome = true) (hh0 : HR w loc H) (hp : (aSlice T t x lo hi mx H).p) :
    ∃ u, (Instr.sliceAt t v vl vh vm).run P w = .ok u w ∧ R w loc (aSlice T t x lo hi mx H).x u ∧ (aSlice T t x lo hi mx H).H = H := by
  unfold aSlice at hp ⊢
  cases ht : T t with
  | none => simp [ht, bad] at hp
  | some ti =>
    simp only [ht] at hp ⊢
    have hd := (hT t ti ht).d
    cases hdd : ti.d with
    | str =>
      simp only [hdd] at hp ⊢
      rw [hdd] at hd
      have hd : P.underlying t = some .string := hd
      split at hp
      · rename_i bs
        obtain ⟨h1, hb⟩ := hp
        cases hx
        cases mx with
        | some m => simp at h1
        | none =>
          cases vm with
          | some v => exact hm.elim
          | none =>
            have hs : (ByteArray.mk bs.toArray).size = bs.length := by simp [ByteArray.size]
            have hr := bounds_run (P := P) (n := bs.length) (cap := bs.length) false hl hh hm hb (Nat.le_refl _) hhm
            refine ⟨.string ((ByteArray.mk bs.toArray).extract (bnd lo 0).2 (bnd hi bs.length).2), ?_, ?_, rfl⟩
            · simp [Instr.sliceAt, run_underlying hd, Instr.slice, hs, hr]
            · rw [ByteArray.extract_mk]
              exact .str _
      · exact hp.elim
    | slice e =>
      simp only [hdd] at hp ⊢
      rw [hdd] at hd
      have hd : P.underlying t = some (.slice e) := hd
      cases hte : T e with
      | none => simp [hte, bad] at hp
      | some te =>
        simp only [hte] at hp ⊢
        have hty := hT _ te hte
        have dim : ∀ (n cap : Nat) (full : Bool), Dim n cap full → bnds lo hi mx n →
            Dim ((bnd hi n).2 - (bnd lo 0).2) ((if mx.isSome = true then (bnd mx n).2 else cap) - (bnd lo 0).2) (full3 full hi mx (bnd hi n).2 (bnd mx n).2) := by
          intro n cap full hdm hb
          obtain ⟨p1, p2, p3, q1, q2, q3⟩ := hb
          have hd1 := hdm.le
          have hd2 := hdm.top
          refine ⟨?_, ?_, fun hf => full3_sound hdm.full rfl rfl hf⟩
          · split <;> omega
          · split <;> omega
        have hcut : ∀ {α : Type} (xs : List α), (bnd hi xs.length).2 ≤ xs.length → (cut xs lo hi).length = (bnd hi xs.length).2 - (bnd lo 0).2 := by
          intro α xs h; simp [cut]; omega
        split at hp
        · rename_i bs full
          obtain ⟨hs, hb⟩ := hp
          have hb' := hb
          obtain ⟨p1, p2, p3, q1, q2, q3⟩ := hb
          cases hx with
          | sb _ _ a cap hdm hc =>
            have hr := slice_run hd hty (a := a) (bounds_run (P := P) (cap := cap) true hl hh hm hb' hdm.le hhm)
            refine ⟨_, hr, ?_, rfl⟩
            rw [← hcut bs (by omega), hs, Nat.mul_one]
            refine .sb _ _ _ _ (by rw [hcut bs (by omega)]; exact dim _ _ _ hdm hb') ?_
            have := hc.piece (bnd lo 0).2 ((bnd hi bs.length).2 - (bnd lo 0).2) ((if mx.isSome = true then (bnd mx bs.length).2 else cap) = (bnd lo 0).2) (fun hq => by
              have hd1 := hdm.le
              have : (bnd hi bs.length).2 - (bnd lo 0).2 = 0 := by split at hq <;> omega
              rw [this]; simp)
            simpa [cut, List.map_take, List.map_drop] using this
        · rename_i ns full
          obtain ⟨hs, hb⟩ := hp
          have hb' := hb
          obtain ⟨p1, p2, p3, q1, q2, q3⟩ := hb
          cases hx with
          | si _ _ a cap hdm hc =>
            have hr := slice_run hd hty (a := a) (bounds_run (P := P) (cap := cap) true hl hh hm hb' hdm.le hhm)
            refine ⟨_, hr, ?_, rfl⟩
            rw [← hcut ns (by omega), hs, Nat.mul_one]
            refine .si _ _ _ _ (by rw [hcut ns (by omega)]; exact dim _ _ _ hdm hb') ?_
            have := hc.piece (bnd lo 0).2 ((bnd hi ns.length).2 - (bnd lo 0).2) ((if mx.isSome = true then (bnd mx ns.length).2 else cap) = (bnd lo 0).2) (fun hq => by
              have hd1 := hdm.le
              have : (bnd hi ns.length).2 - (bnd lo 0).2 = 0 := by split at hq <;> omega
              rw [this]; simp)
            simpa [cut, List.map_take, List.map_drop] using this
        · rename_i s xs full
          obtain ⟨hs, hb⟩ := hp
          have hb' := hb
          obtain ⟨p1, p2, p3, q1, q2, q3⟩ := hb
          cases hx with
          | sg _ _ _ a cap cs hdm hls hc hlen hxs h =>
            have hr := slice_run hd hty (a := a) (bounds_run (P := P) (cap := cap) true hl hh hm hb' hdm.le hhm)
            refine ⟨_, hr, ?_, rfl⟩
            rw [← hcut xs (by omega), hs]
            have hfl : (cut xs lo hi).flatMap AV.leaves = ((xs.flatMap AV.leaves).drop ((bnd lo 0).2 * s)).take (((bnd hi xs.length).2 - (bnd lo 0).2) * s) := by
              unfold cut
              rw [flatMap_take _ _ (fun y hy => hls y (List.mem_of_mem_drop hy)), flatMap_drop _ _ hls]
            refine .sg s _ _ _ _ ((cs.drop ((bnd lo 0).2 * s)).take (((bnd hi xs.length).2 - (bnd lo 0).2) * s)) (by rw [hcut xs (by omega)]; exact dim _ _ _ hdm hb') (fun y hy => hls y (List.mem_of_mem_drop (List.mem_of_mem_take hy))) ?_ (by rw [hfl]; simp only [List.length_take, List.length_drop, hlen]) (fun j hj => ?_) (fun j h1 h2 => ?_)
            · exact hc.piece _ _ _ (fun hq => by
                have hd1 := hdm.le
                have : (bnd hi xs.length).2 - (bnd lo 0).2 = 0 := by split at hq <;> omega
                rw [this]; simp)
            · have hj2 := hj
              rw [hfl] at hj2
              have e : ((cut xs lo hi).flatMap AV.leaves)[j] = (xs.flatMap AV.leaves)[(bnd lo 0).2 * s + j]'(by simp only [List.length_take, List.length_drop] at hj2; omega) := by
                simp only [hfl, List.getElem_take, List.getElem_drop]
              rw [e]; exact hxs _ _
            · have hj2 := h1
              rw [hfl] at hj2
              have e : ((cut xs lo hi).flatMap AV.leaves)[j] = (xs.flatMap AV.leaves)[(bnd lo 0).2 * s + j]'(by simp only [List.length_take, List.length_drop] at hj2; omega) := by
                simp only [hfl, List.getElem_take, List.getElem_drop]
              rw [e]
              have := h ((bnd lo 0).2 * s + j) (by simp only [List.length_take, List.length_drop] at hj2; omega) (by simp only [List.length_take, List.length_drop] at h2; omega)
              simpa using this
        · rename_i id s off len
          cases hlk : look H id with
          | none => simp [hlk, bad] at hp
          | some blk =>
          simp only [hlk] at hp ⊢
          obtain ⟨hs, hb⟩ := hp
          have hb' := hb
          obtain ⟨p1, p2, p3, q1, q2, q3⟩ := hb
          have hlive : loc.m id ≠ .dead := by
            intro e
            have := hh0 id blk hlk
            unfold BlkR at this
            rw [e] at this
            exact this
          cases hx with
          | ms _ _ _ _ _ h =>
            cases hloc : loc.m id with
            | free => unfold Owns at h; rw [hloc] at h; exact h.elim
            | dead => simp [hloc] at hlive
            | nil =>
              unfold Owns at h; rw [hloc] at h
              obtain ⟨rfl, a, rfl⟩ := h
              have hr := slice_run hd hty (a := a) (bounds_run (P := P) (n := 0) (cap := 0) true hl hh hm hb' (Nat.le_refl _) hhm)
              refine ⟨_, hr, .ms _ _ _ _ _ ?_, by simp⟩
              unfold Owns; rw [hloc]
              have e1 : (bnd hi 0).2 - (bnd lo 0).2 = 0 := by omega
              have e2 : (if mx.isSome = true then (bnd mx 0).2 else 0) - (bnd lo 0).2 = 0 := by split <;> omega
              rw [e1, e2]
              exact ⟨rfl, _, rfl⟩
            | here b =>
              unfold Owns at h; rw [hloc] at h
              obtain ⟨o, cap, cur0, e0, fz0, rfl, ho, hh0, hsz0, hlc, htop⟩ := h
              have hr := slice_run hd hty (a := some ⟨b, o, none⟩) (bounds_run (P := P) (n := len) (cap := cap) true hl hh hm hb' hlc hhm)
              refine ⟨_, hr, .ms _ _ _ _ _ ?_, by simp⟩
              unfold Owns; rw [hloc]
              generalize hmm : (if mx.isSome = true then (bnd mx len).2 else cap) = m
              have hmc : m ≤ cap := by rw [← hmm]; split <;> omega
              have hhm2 : (bnd hi len).2 ≤ m := by rw [← hmm]; split <;> omega
              have hmul : (off + (bnd lo 0).2 + (m - (bnd lo 0).2)) * s ≤ (off + cap) * s := Nat.mul_le_mul_right s (by omega)
              by_cases hml : m = (bnd lo 0).2
              · refine ⟨o, m - (bnd lo 0).2, cur0, e0, fz0, by rw [if_pos hml], fun h0 => by omega, hh0, by omega, by omega, by omega⟩
              · refine ⟨o + (bnd lo 0).2 * te.size, m - (bnd lo 0).2, cur0, e0, fz0, by rw [if_neg hml]; simp [addr_add], fun h0 => ?_, hh0, by omega, by omega, by omega⟩
                rw [ho (by omega), hs, Nat.add_mul]
        · exact hp.elim
    | _ => simp [hdd, bad] at hp

end ops
end Ax
end Go.Proofs.Ytgkkgbomhfdbkaa
