/- That what is said of abstract values holds of the model: the operations on memory, each by itself. -/
import Derived.Test.YtgkkgbomhfdbkaaAxF
namespace Go.Proofs.Ytgkkgbomhfdbkaa
namespace Ax
section ops
variable {P : Program}

theorem splice_ext {ls vs l : List AV} {f : Nat} (h : f + vs.length ≤ ls.length) (hl : l.length = ls.length)
    (hj : ∀ (j : Nat) (h : j < ls.length) (h' : j < l.length), l[j] = if h2 : f ≤ j ∧ j < f + vs.length then vs[j - f] else ls[j]) : l = splice ls f vs := by
  refine List.ext_getElem (by rw [splice_len h, hl]) fun j h1 h2 => ?_
  rw [hj j (by omega) h1, splice_get h (by omega) h2]

theorem flat_eq {blk : Blk} (hok : blk.ok) {i f : Nat} {x : AV} (hi : i < blk.len) (hp : (setB blk i f x).1) :
    (setB blk i f x).2.ok ∧ i * blk.size + f + x.leaves.length ≤ blk.flat.length ∧ (setB blk i f x).2.flat = splice blk.flat (i * blk.size + f) x.leaves := by
  obtain ⟨h1, h2, h3, h4⟩ := flat_set hok hi hp
  exact ⟨h1, h3, splice_ext h3 h2 h4⟩

/-- One operation holds: whatever is asked of what it leaves. -/
def Sd (P : Program) (w0 : World) (E : Nat → Prop) (w : World) (loc : Loc) (wr : Bool) (nm : Nat) (out : Out) (o : Oper) (a : Act) : Prop :=
  ∀ (next : Act → World → Prop) (Q : Exit → Act → World → Prop), (∀ v w' loc', Post w0 E w loc wr nm out.x out.H v w' loc' → next (a.put o.dst v) w') → o.wp P a w next Q

theorem sd_value {w0 : World} {E : Nat → Prop} {w : World} {loc : Loc} {wr : Bool} {nm : Nat} {out : Out} {o : Oper} {a : Act} {v : Value} {w' : World} {loc' : Loc}
    (h : (execOp a.eval o).run P w = .ok (.value v) w') (hp : Post w0 E w loc wr nm out.x out.H v w' loc') : Sd P w0 E w loc wr nm out o a := by
  intro next Q hn
  unfold Oper.wp
  rw [h]
  exact hn v w' loc' hp

theorem sd_skip {w0 : World} {E : Nat → Prop} {w : World} {loc : Loc} {wr : Bool} {nm : Nat} {out : Out} {o : Oper} {a : Act} {w' : World} {loc' : Loc}
    (h : (execOp a.eval o).run P w = .ok .skip w') (hp : Post w0 E w loc wr nm out.x out.H undef w' loc') : Sd P w0 E w loc wr nm out o a := by
  intro next Q hn
  unfold Oper.wp
  rw [h]
  exact hn undef w' loc' hp

theorem cellsOf_get {w : World} {loc : Loc} {ls : List AV} {cs : Array Value} (h : CellsOf w loc ls cs.toList) (j : Nat) (h1 : j < ls.length) (h2 : j < cs.size) : ls[j].leaf = true ∧ R w loc ls[j] cs[j] :=
  ⟨h.leaf j h1, h.r j h1 (by simpa using h2)⟩

theorem store_post {w0 : World} {E : Nat → Prop} {w : World} {loc : Loc} {H : Heap} {T : Types} (hT : TOk P T) (he : Env w0 E w loc) (hh : HR w loc H) {nm : Nat} {t : TypeId} {p x : AV} {vp vx : Value}
    (hvp : R w loc p vp) (hvx : R w loc x vx) (hp : (aStore T t p x H).p) :
    ∃ w', (Instr.storeAt t vp vx).run P w = .ok () w' ∧ Post w0 E w loc true nm (aStore T t p x H).x (aStore T t p x H).H undef w' loc := by
  unfold aStore at hp ⊢
  cases ht : T t with
  | none => simp [ht, bad] at hp
  | some ti =>
    have hty := hT t ti ht
    cases hvp with
    | rf id s i f v h =>
      simp only [ht] at hp ⊢
      cases hl : look H id with
      | none => simp [hl, bad] at hp
      | some blk =>
        simp only [hl] at hp ⊢
        obtain ⟨rfl, hi, hsz, hk, hset⟩ := hp
        have hf : loc.m id ≠ .free := by intro e; simp [Points, e] at h
        obtain ⟨hok, hn | ⟨b, hb, hlies⟩⟩ := hh.get hl hf
        · simp [Points, hn.1] at h
        · simp only [Points, hb] at h
          subst h
          obtain ⟨cur, e, fz, hheap, hfz, hone, hlen, hr⟩ := hlies.lies
          obtain ⟨f1, f2, f3⟩ := flat_eq hok hi hset
          have hco := okv_cells hvx hk
          obtain ⟨w', cur', r1, r2, r3, r4, r5, r6, r7, r8, r9⟩ := run_storeCells' (P := P) b (i * blk.size + f) e fz vx.cells.toList 0 cur w hheap (fz_free hfz) (by rw [← hco.len]; omega) hco.one
          refine ⟨w', ?_, ?_⟩
          · have hs := run_sizeOf' hty w
            have hsz2 : vx.cells.size = ti.size := by rw [← hsz, hco.len]; simp
            simp [Instr.storeAt, Instr.sureAddr, storeVar, hs, hsz2, r1]
          · have hfl : (setB blk i f x).2.flat.length = blk.flat.length := by rw [f3, splice_len f2]
            refine post_write he hh hb hheap r2 r3 r4 r5 r6 r7 r8 f1 hfz ?_ (by rw [hfl, r3]; exact hlen) ?_ (fun _ _ => .junk _)
            · intro j hj
              have := r9 j (by rw [← r3]; exact hj)
              rw [Array.getElem?_eq_getElem hj] at this
              split at this
              · rw [List.getElem?_eq_getElem (by omega)] at this
                injection this with this
                rw [this]; exact hco.one _ (List.getElem_mem _)
              · rw [Array.getElem?_eq_getElem (by rw [← r3]; exact hj)] at this
                injection this with this
                rw [this]; exact hone j _
            · intro j hj hj'
              have h9 := r9 j (by rw [← r3]; exact hj')
              rw [Array.getElem?_eq_getElem hj'] at h9
              have hg : (setB blk i f x).2.flat[j] = (splice blk.flat (i * blk.size + f) x.leaves)[j]'(by rw [← f3]; exact hj) := by congr 1
              rw [hg, splice_get f2 (by rw [← hfl]; exact hj)]
              have hlen2 := hco.len
              by_cases hc : i * blk.size + f ≤ j ∧ j < i * blk.size + f + x.leaves.length
              · rw [if_pos (by omega), List.getElem?_eq_getElem (by omega)] at h9
                injection h9 with h9
                rw [dif_pos hc, h9]
                simp only [Nat.add_zero]
                exact ⟨hco.leaf _ (by omega), hco.r _ (by omega) (by omega)⟩
              · rw [if_neg (by omega), Array.getElem?_eq_getElem (by rw [← r3]; exact hj')] at h9
                injection h9 with h9
                rw [dif_neg hc, h9]
                exact hr j (by rw [← hfl]; exact hj) _
    | _ => simp [ht, bad] at hp

theorem box_post {w0 : World} {E : Nat → Prop} {w : World} {loc : Loc} {H : Heap} (he : Env w0 E w loc) (hh : HR w loc H) {nm s : Nat} (hf : loc.m nm = .free) {e : TypeId} {x : AV} {v : Value}
    (hv : R w loc x v) (hs : 0 < s) (hl : x.leaves.length = s) (hk : x.okv = true) (wr : Bool) :
    ∃ w', (newVar e v).run P w = .ok ⟨w.heap.size, 0, none⟩ w' ∧ Post w0 E w loc wr nm (.rf nm s 0 0) (put H nm (.g s [x])) (.pointer (some ⟨w.heap.size, 0, none⟩)) w' (loc.set nm (.here w.heap.size)) := by
  have hco := okv_cells hv hk
  refine ⟨{ w with heap := w.heap.push (.cells v.cells e) }, rfl, ?_⟩
  have hlen := hco.len
  refine post_push (cur := v.cells) (e := e) (fz := (0, 0)) he hh hf ⟨rfl, rfl, rfl, rfl⟩ ⟨hs, by simpa using hl⟩ (.inl rfl) (fun j hj => hco.one _ (by simp)) (by simp [Blk.flat]; simpa using Nat.le_of_eq hlen) ?_ ?_
  · intro j h1 h2
    have := cellsOf_get (cs := v.cells) hco j (by simpa [Blk.flat] using h1) h2
    simpa [Blk.flat] using this
  · intro w' loc' h1 _
    exact .rf nm s 0 0 _ (by simp [Points, h1])

theorem asv_okv {t : TypeId} {i : TyI} (h : TyR P t i) {w : World} {loc : Loc} {z : Value} (hz : CellsOf w loc i.zero z.cells.toList) (hl : z.cells.toList.length = i.size) : (asv i i.zero).okv = true ∧ (asv i i.zero).leaves.length = i.size ∧ (asv i i.zero).leaves = i.zero := by
  unfold asv
  cases ha : i.d.aggr with
  | true => exact ⟨rfl, by simp [AV.leaves]; rw [hz.len, hl], rfl⟩
  | false =>
    have hs : i.size = 1 := by obtain ⟨_, _, _, _, _, _, _, _, _, h8⟩ := h.info; exact (h8 ha).2.2
    have h0 : i.zero.length = 1 := by rw [hz.len, hl, hs]
    have h1 : 0 < i.zero.length := by omega
    simp only [cond_false]
    rw [slot_lt h1]
    have h2 := hz.leaf 0 h1
    have h3 : i.zero = [i.zero[0]] := by
      refine List.ext_getElem (by simp [h0]) fun j a b => ?_
      obtain rfl : j = 0 := by omega
      simp
    refine ⟨?_, by rw [leaf_leaves h2, hs]; rfl, by rw [leaf_leaves h2]; exact h3.symm⟩
    cases hx : i.zero[0] <;> rw [hx] at h2 <;> first | exact h2 | rfl

theorem alloc_post {w0 : World} {E : Nat → Prop} {w : World} {loc : Loc} {H : Heap} {T : Types} (hT : TOk P T) (he : Env w0 E w loc) (hh : HR w loc H) {nm : Nat} (hf : loc.m nm = .free) {e : TypeId} (hp : (aAlloc T nm e H).p) (wr : Bool) (old : Value) :
    ∃ v w' loc', (Instr.alloc e true old).run P w = .ok v w' ∧ Post w0 E w loc wr nm (aAlloc T nm e H).x (aAlloc T nm e H).H v w' loc' := by
  unfold aAlloc at hp ⊢
  cases ht : T e with
  | none => simp [ht, bad] at hp
  | some ti =>
    simp only [ht] at hp ⊢
    have hty := hT e ti ht
    obtain ⟨z, hz, hzl, hzr⟩ := run_zeroValue' hty w
    obtain ⟨hzc, hzv⟩ := hzr w loc
    obtain ⟨k1, k2, _⟩ := asv_okv hty hzc hzl
    obtain ⟨w', h1, h2⟩ := box_post (P := P) (e := e) he hh hf hzv hp k2 k1 wr
    refine ⟨_, w', _, ?_, h2⟩
    simp [Instr.alloc, hz, h1]

theorem fold_cells (off : Nat) : ∀ (l : List Value) (s : Nat) (cs : Array Value), off + s + l.length ≤ cs.size →
    ((l.zipIdx s).foldl (fun cs (p : Value × Nat) => cs.setIfInBounds (off + p.2) p.1) cs).size = cs.size ∧
    ∀ j, j < cs.size → ((l.zipIdx s).foldl (fun cs (p : Value × Nat) => cs.setIfInBounds (off + p.2) p.1) cs)[j]? = if off + s ≤ j ∧ j < off + s + l.length then l[j - (off + s)]? else cs[j]?
  | [], s, cs, _ => ⟨rfl, fun j _ => by rw [if_neg (by simp)]; rfl⟩
  | v :: r, s, cs, h => by
    simp only [List.zipIdx_cons, List.foldl_cons]
    obtain ⟨h1, h2⟩ := fold_cells off r (s + 1) (cs.setIfInBounds (off + s) v) (by simp at h ⊢; omega)
    refine ⟨by rw [h1]; simp, fun j hj => ?_⟩
    rw [h2 j (by simpa using hj)]
    by_cases he : j = off + s
    · subst he
      rw [if_neg (by omega), if_pos (by simp)]
      simp [hj]
    · by_cases h11 : off + (s + 1) ≤ j ∧ j < off + (s + 1) + r.length
      · rw [if_pos h11, if_pos (by simp; omega)]
        have : j - (off + s) = (j - (off + (s + 1))) + 1 := by omega
        rw [this]; simp
      · rw [if_neg h11, if_neg (by simp; omega), Array.getElem?_setIfInBounds, if_neg (by omega)]

/-- Laying a part's cells over others. -/
def lay (cs : Array Value) (off : Nat) (v : Value) : Array Value := v.cells.zipIdx.foldl (fun cs (p : Value × Nat) => cs.setIfInBounds (off + p.2) p.1) cs

theorem lay_cells {w : World} {loc : Loc} {ls vs : List AV} {cs : Array Value} {v : Value} {off : Nat} (h : CellsOf w loc ls cs.toList) (hv : CellsOf w loc vs v.cells.toList) (ho : off + vs.length ≤ ls.length) :
    (lay cs off v).size = cs.size ∧ CellsOf w loc (splice ls off vs) (lay cs off v).toList := by
  have hl := h.len
  have hvl := hv.len
  have he : lay cs off v = (v.cells.toList.zipIdx 0).foldl (fun cs (p : Value × Nat) => cs.setIfInBounds (off + p.2) p.1) cs := by
    unfold lay; rw [← Array.foldl_toList]; simp
  obtain ⟨h1, h2⟩ := fold_cells off v.cells.toList 0 cs (by simp at hl hvl ⊢; omega)
  rw [← he] at h1 h2
  refine ⟨h1, by rw [splice_len ho]; simp at hl ⊢; omega, fun j hj => ?_, fun j hj hj' => ?_⟩
  · rw [splice_get ho (by rw [splice_len ho] at hj; exact hj)]
    split
    · exact hv.leaf _ _
    · exact h.leaf _ _
  · have hjl : j < ls.length := by rw [splice_len ho] at hj; exact hj
    have hjc : j < cs.size := by simp at hl; omega
    rw [splice_get ho hjl]
    have h3 := h2 j hjc
    have hjs : j < (lay cs off v).size := by omega
    rw [Array.getElem?_eq_getElem hjs] at h3
    simp only [Array.getElem_toList]
    by_cases hc : off ≤ j ∧ j < off + vs.length
    · rw [if_pos (by omega), List.getElem?_eq_getElem (by omega)] at h3
      injection h3 with h3
      rw [dif_pos hc, h3]
      exact hv.r (j - off) (by omega) (by omega)
    · rw [if_neg (by omega), Array.getElem?_eq_getElem hjc] at h3
      injection h3 with h3
      rw [dif_neg hc, h3]
      exact h.r j hjl (by simpa using hjc)

theorem fill_cons {place : Nat → Option (Nat × Nat)} {cs : Array Value} {i off size : Nat} {v : Value} {r : List (Nat × Value)} (hpl : place i = some (off, size)) (hs : v.cells.size = size) (ho : off + size ≤ cs.size) :
    Instr.fill place cs ((i, v) :: r) = Instr.fill place (lay cs off v) r := by
  rw [Instr.fill]
  simp only [hpl]
  rw [if_neg (by simp; omega)]
  rfl

end ops
end Ax
end Go.Proofs.Ytgkkgbomhfdbkaa
