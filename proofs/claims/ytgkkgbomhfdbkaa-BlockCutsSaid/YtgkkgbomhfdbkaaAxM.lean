/- That what is said of abstract values holds of the model: conversions; new slices. -/
import Derived.Test.YtgkkgbomhfdbkaaAxL
namespace Go.Proofs.Ytgkkgbomhfdbkaa
namespace Ax
set_option linter.unusedSimpArgs false
set_option linter.unusedVariables false
section ops
variable {P : Program}

theorem under_some {t : TypeId} {i : TyI} (h : TyR P t i) : ∃ d, P.underlying t = some d := by
  have h1 := h.d
  cases hd : i.d <;> rw [hd] at h1 <;> simp only [TdR] at h1
  · exact ⟨_, h1⟩
  · exact ⟨_, h1⟩
  · exact ⟨_, h1⟩
  · obtain ⟨e, h1⟩ := h1; exact ⟨_, h1⟩
  · exact ⟨_, h1⟩
  · obtain ⟨e, h1, _⟩ := h1; exact ⟨_, h1⟩
  · exact ⟨_, h1⟩
  · obtain ⟨a, b, c, h1⟩ := h1; exact ⟨_, h1⟩
  · obtain ⟨d, h1, _⟩ := h1; exact ⟨d, h1⟩

theorem owns_new {w : World} {loc : Loc} {nm s n cap : Nat} {b : Nat} {cur : Array Value} {e : TypeId} {fz : Nat × Nat} (hl : loc.m nm = .here b) (hw : w.heap[b]? = some (.cells cur e fz)) (hs : cap * s ≤ cur.size) (hn : n ≤ cap) (ht : cap ≤ maxLen) :
    R w loc (.ms nm s 0 n) (.slice (some ⟨b, 0, none⟩) n cap) := by
  refine .ms _ _ _ _ _ ?_
  unfold Owns; rw [hl]
  exact ⟨0, cap, cur, e, fz, rfl, fun _ => by simp, hw, by simpa using hs, hn, ht⟩

theorem conv_post {w0 : World} {E : Nat → Prop} {w : World} {loc : Loc} {H : Heap} {T : Types} (hT : TOk P T) (he : Env w0 E w loc) (hh : HR w loc H) {nm : Nat} (hf : loc.m nm = .free) {src dst : TypeId} {x : AV} {v : Value} (hx : R w loc x v) (hp : (aConv T src dst nm x H).p) :
    ∃ u w' loc', (convert src dst v).run P w = .ok u w' ∧ Post w0 E w loc (match x with | .ms _ _ _ _ => (match T dst with | some i => (match i.d with | .slice _ => true | _ => false) | none => false) | _ => false) nm (aConv T src dst nm x H).x (aConv T src dst nm x H).H u w' loc' := by
  unfold aConv at hp ⊢
  cases hs : T src with
  | none => simp [hs, bad] at hp
  | some si =>
    cases hdt : T dst with
    | none => simp [hs, hdt, bad] at hp
    | some di =>
      simp only [hs, hdt] at hp ⊢
      have hsd := (hT src si hs)
      have hd := (hT dst di hdt).d
      obtain ⟨sd, hsu⟩ := under_some hsd
      cases hdd : di.d with
      | int k =>
        simp only [hdd] at hp ⊢
        rw [hdd] at hd
        have hd : P.underlying dst = some (.int k) := hd
        split at hp
        · rename_i k' n
          obtain rfl := hx.wv
          exact ⟨.int k (k.wrap n), w, loc, by simp [convert, run_underlying hsu, run_underlying hd, Conv.intToInt], Post.pure (.w _ rfl) hh he⟩
        · exact hp.elim
      | str =>
        simp only [hdd] at hp ⊢
        rw [hdd] at hd
        have hd : P.underlying dst = some .string := hd
        split at hp
        · rename_i bs
          cases hx
          exact ⟨.string ⟨bs.toArray⟩, w, loc, by simp [convert, run_underlying hsu, run_underlying hd], Post.pure (.str bs) hh he⟩
        · obtain ⟨h1, h2⟩ := hp
          obtain ⟨e, he1, he2⟩ := isBytes_sound hT h1
          have := run_bytes_to_string (P := P) he1 he2 hd (viewB_sound hh hx h2)
          refine ⟨_, w, loc, this, ?_⟩
          cases x <;> exact Post.pure (.str _) hh he
      | slice e =>
        simp only [hdd] at hp ⊢
        split at hp
        · rename_i bs
          obtain ⟨h1, h2⟩ := hp
          obtain ⟨e, he1, he2⟩ := isBytes_sound hT h1
          cases hx
          -- the capacity is drawn
          have hs1 : (ByteArray.mk bs.toArray).size = bs.length := by simp [ByteArray.size]
          obtain ⟨cap, hcap1, hcap2, hrun⟩ : ∃ cap, bs.length ≤ cap ∧ cap ≤ maxLen ∧ (choose (.appendCap bs.length 0 e)).run P w = .ok cap { w with drawn := w.drawn + 1 } := by
            refine ⟨bs.length + w.tape w.drawn (.appendCap bs.length 0 e) % (2 ^ 63 - bs.length), by omega, ?_, by simp [choose, Sem.run, Question.forced, Question.cut]⟩
            have := Nat.mod_lt (w.tape w.drawn (.appendCap bs.length 0 e)) (show 0 < 2 ^ 63 - bs.length by omega)
            unfold maxLen; omega
          have hcells : ∀ arr : Array Value, arr = (bs.toArray.map fun b => (Value.int .u8 b.toNat)) ++ Array.replicate (cap - bs.length) (.int .u8 0) → arr.size = cap := by
            intro arr ha; rw [ha]; simp; omega
          generalize harr : (bs.toArray.map fun b => (Value.int .u8 b.toNat)) ++ Array.replicate (cap - bs.length) (.int .u8 0) = arr
          have hsz := hcells arr harr.symm
          refine ⟨.slice (some ⟨w.heap.size, 0, none⟩) bs.length cap, { w with drawn := w.drawn + 1, heap := w.heap.push (.cells arr e (cap, cap + 1)) }, loc.set nm (.here w.heap.size), ?_, ?_⟩
          · have h3 : (Conv.stringToBytes e ⟨bs.toArray⟩).run P w = .ok (.slice (some ⟨w.heap.size, 0, none⟩) bs.length cap) { w with drawn := w.drawn + 1, heap := w.heap.push (.cells arr e (cap, cap + 1)) } := by
              unfold Conv.stringToBytes
              rw [hs1]
              simp only [Sem.run_bind, hrun, Result.andThen_ok]
              have hpush : ∀ W : World, (newRow e arr).run P W = .ok ⟨W.heap.size, 0, none⟩ { W with heap := W.heap.push (.cells arr e (0, 0)) } := fun W => rfl
              have hsh : ∀ W : World, (shape W.heap.size).run P { W with heap := W.heap.push (.cells arr e (0, 0)) } = .ok (some (e, arr.size)) { W with heap := W.heap.push (.cells arr e (0, 0)) } := fun W => by
                have hq : (W.heap.push (.cells arr e (0, 0)))[W.heap.size]? = some (.cells arr e (0, 0)) := Array.getElem?_push_size
                show Result.ok (World.shape? _ _) _ = _
                unfold World.shape?
                simp only [hq]
              have hfrz : ∀ W : World, (freeze ⟨W.heap.size, cap, none⟩ 1).run P { W with heap := W.heap.push (.cells arr e (0, 0)) } = .ok () { W with heap := W.heap.push (.cells arr e (cap, cap + 1)) } := fun W => by
                show Result.ok () (World.freeze _ _ _) = _
                unfold World.freeze
                rw [if_neg (by decide)]
                congr 2
                apply Array.ext_getElem?
                intro i
                simp only [Array.getElem?_modify, Array.getElem?_push]
                by_cases hi : i = W.heap.size
                · subst hi; simp
                · simp [hi, Ne.symm hi]
              have hsh1 : (shape w.heap.size).run P { w with drawn := w.drawn + 1, heap := w.heap.push (.cells arr e (0, 0)) } = .ok (some (e, arr.size)) { w with drawn := w.drawn + 1, heap := w.heap.push (.cells arr e (0, 0)) } := hsh { w with drawn := w.drawn + 1 }
              have hfrz1 : (freeze ⟨w.heap.size, cap, none⟩ 1).run P { w with drawn := w.drawn + 1, heap := w.heap.push (.cells arr e (0, 0)) } = .ok () { w with drawn := w.drawn + 1, heap := w.heap.push (.cells arr e (cap, cap + 1)) } := hfrz { w with drawn := w.drawn + 1 }
              simp only [harr]
              simp only [hpush, Result.andThen_ok, Sem.run_bind, markStringish, hsh1, hsz]
              simp only [hfrz1, Result.andThen_ok, Sem.run_pure]
            simp [convert, run_underlying hsu, run_underlying he1, run_underlying he2, h3]
          · refine post_push (cur := arr) (e := e) (fz := (cap, cap + 1)) he hh hf ⟨rfl, rfl, rfl, rfl⟩ trivial (.inr (by omega)) (fun j hj => ?_) (by simp [Blk.flat]; omega) (fun j h4 h5 => ?_) (fun w' loc' h6 h7 => owns_new h6 h7 (by omega) hcap1 hcap2)
            · subst harr
              by_cases hjb : j < bs.length
              · rw [Array.getElem_append_left (by simpa using hjb)]; simp [one]
              · rw [Array.getElem_append_right (by simpa using hjb)]; simp [one]
            · have hjb : j < bs.length := by simpa [Blk.flat] using h4
              subst harr
              rw [Array.getElem_append_left (by simpa using hjb)]
              simp only [Blk.flat, List.getElem_map, Array.getElem_map, List.getElem_toArray]
              exact ⟨rfl, .w _ rfl⟩
        · rename_i id s off len
          cases hl : look H id with
          | none => simp [hl, bad] at hp
          | some blk =>
            simp only [hl] at hp ⊢
            obtain ⟨h1, rfl, hpos⟩ := hp
            obtain ⟨e, he1, he2⟩ := isBytes_sound hT h1
            have hx' := hx
            cases hx with
            | ms _ _ _ _ _ h =>
              have hfr : loc.m id ≠ .free := by intro e; simp [Owns, e] at h
              obtain ⟨hok, hnl | ⟨b, hb, hlies⟩⟩ := hh.get hl hfr
              · omega
              · obtain ⟨cur, e1, fz, hheap, hfz, hone, hlen, hr⟩ := hlies.lies
                unfold Owns at h; rw [hb] at h
                obtain ⟨o, cap, cur0, e0, fz0, rfl, ho, hh0, hsz0, hlc, htop⟩ := h
                -- the mark stands behind the cells
                obtain ⟨w', hw', hrun, hcell, hoth, hsize, ho1, ho2, ho3⟩ : ∃ w' fz', (convert src src (.slice (some ⟨b, o, none⟩) len cap)).run P w = .ok (.slice (some ⟨b, o, none⟩) len cap) w' ∧ (w'.heap[b]? = some (.cells cur e1 fz') ∧ (fz'.1 = fz'.2 ∨ cur.size ≤ fz'.1)) ∧ (∀ c, c ≠ b → w'.heap[c]? = w.heap[c]?) ∧ w'.heap.size = w.heap.size ∧ w'.os = w.os ∧ w'.tape = w.tape ∧ w'.output = w.output := by
                  refine ⟨w.freeze ⟨b, cur.size, none⟩ 1, if fz.1 == fz.2 then (cur.size, cur.size + 1) else (min fz.1 cur.size, max fz.2 (cur.size + 1)), ?_, ⟨?_, ?_⟩, ?_, ?_, rfl, rfl, rfl⟩
                  · have hsh : (shape b).run P w = .ok (some (e1, cur.size)) w := by simp [shape, Sem.run, World.shape?, hheap]
                    have hmk : (markStringish ⟨b, o, none⟩).run P w = .ok () (w.freeze ⟨b, cur.size, none⟩ 1) := by
                      simp [markStringish, hsh, freeze, Sem.run]
                    simp [convert, run_underlying he1, run_underlying he2, hmk]
                  · simp [World.freeze, Array.getElem?_modify, hheap]
                  · by_cases hq : fz.1 = fz.2
                    · simp [hq]
                    · have : cur.size ≤ fz.1 := by omega
                      simp [hq]; right; omega
                  · intro c hc; simp [World.freeze, Array.getElem?_modify, Ne.symm hc]
                  · simp [World.freeze]
                refine ⟨_, w', loc, hrun, ?_⟩
                have hext : Ext (fun k => k = id) w loc w' loc := by
                  refine ⟨by omega, fun _ _ _ => rfl, fun _ _ _ => .inl rfl, fun c hc hm => ⟨hoth c ?_, hm⟩, fun k c hk hC => hoth c ?_, fun k c cur1 e1' fz1 hk hc1 => ?_⟩
                  · intro hcb; subst hcb; exact hm (.inr ⟨id, hb⟩)
                  · intro hcb; subst hcb; exact hC (he.inj k id c hk hb)
                  · by_cases hcb : c = b
                    · subst hcb
                      rw [hheap] at hc1; injection hc1 with hc1; injection hc1 with h4 h5 h6; subst h4 h5 h6
                      exact ⟨cur, _, hcell.1, rfl⟩
                    · exact ⟨cur1, fz1, (hoth c hcb).trans hc1, rfl⟩
                refine ⟨hx'.ext hext, ?_, ⟨ho1.trans he.os, ho2.trans he.tape, ho3.trans he.output, by have := he.size; omega, fun c hc hE => ?_, he.inj, fun i c hi => by have := he.lies i c hi; exact ⟨by omega, this.2⟩, he.bad⟩, ⟨_, hext, fun h => by cases h⟩, fun _ h h' => (h' h).elim, rfl⟩
                · intro k blk' hk
                  rw [look_put] at hk
                  split at hk
                  · rename_i hi; subst hi
                    injection hk with hk; subst hk
                    unfold BlkR
                    rw [hb]
                    exact ⟨hok, ⟨cur, e1, _, hcell.1, hcell.2, hone, hlen, fun j a c => ⟨(hr j a c).1, (hr j a c).2.ext hext⟩⟩⟩
                  · rename_i hi
                    by_cases hfr2 : loc.m k = .free
                    · exact BlkR.free hfr2
                    · exact (hh k blk' hk).ext hext (Ne.symm hi) hfr2
                · rw [hoth c ?_]
                  · exact he.same c hc hE
                  · intro hcb; subst hcb
                    have := (he.lies id c hb).2
                    rcases this with h | h
                    · omega
                    · exact hE h
        · exact hp.elim
      | _ => simp [hdd, bad] at hp

end ops
end Ax
end Go.Proofs.Ytgkkgbomhfdbkaa
