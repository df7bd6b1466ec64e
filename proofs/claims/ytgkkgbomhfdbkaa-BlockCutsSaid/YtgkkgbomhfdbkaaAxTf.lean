/- Append where the elder slice stays. -/
import Derived.Test.YtgkkgbomhfdbkaaAxTe
namespace Go.Proofs.Ytgkkgbomhfdbkaa
namespace Ax
set_option linter.unusedSimpArgs false
set_option linter.unusedVariables false
section
variable {P : Program}

/-- A new block that has no name. -/
theorem post_anon {w0 : World} {E : Nat → Prop} {w w' : World} {loc : Loc} {wr : Bool} {H : Heap} {nm : Nat} {x : AV} {v : Value} {o : Obj} (he : Env w0 E w loc) (hh : HR w loc H) (hp : Pushed w w' o) (hx : Ext (fun _ => False) w loc w' loc → R w' loc x v) :
    Post w0 E w loc wr nm x H v w' loc := by
  have hsz : w'.heap.size = w.heap.size + 1 := by rw [hp.heap]; simp
  have hext : Ext (fun _ => False) w loc w' loc :=
    ⟨by omega, fun _ _ _ => rfl, fun _ _ h => h.elim, fun b hb hm => ⟨pushed_old hp hb, hm⟩, fun id b h1 _ => pushed_old hp (he.lies id b h1).1, fun id b cur el fz' h1 h2 => ⟨cur, fz', (pushed_old hp (he.lies id b h1).1).trans h2, rfl⟩⟩
  refine ⟨hx hext, fun id b hb => ?_, ⟨hp.os.trans he.os, hp.tape.trans he.tape, hp.output.trans he.output, by have := he.size; omega, fun b hb hE => (pushed_old hp (by have := he.size; omega)).trans (he.same b hb hE), he.inj, fun i b hi => by have := he.lies i b hi; exact ⟨by omega, this.2⟩, he.bad⟩, ⟨_, hext, fun _ _ h => h⟩, fun _ h h' => (h' h).elim, rfl⟩
  by_cases hfr : loc.m id = .free
  · exact BlkR.free hfr
  · exact (hh id b hb).ext hext (fun h => h) hfr

theorem closedL_append : ∀ {xs ys : List AV}, closedL xs = true → closedL ys = true → closedL (xs ++ ys) = true
  | [], ys, _, h => h
  | x :: r, ys, h, h' => by
    simp only [List.cons_append, closedL, Bool.and_eq_true] at h ⊢
    exact ⟨h.1, closedL_append h.2 h'⟩

theorem not_mut_new {w0 : World} {E : Nat → Prop} {w : World} {loc : Loc} (he : Env w0 E w loc) : ¬ Mut loc w.heap.size := by
  rintro (h | ⟨k, h⟩)
  · have := (he.bad _ h).1; have := he.size; omega
  · have := (he.lies k _ h).1; omega

theorem keep_runs {w0 : World} {E : Nat → Prop} {w : World} {loc : Loc} {H : Heap} (he : Env w0 E w loc) (hh : HR w loc H) {nm id : Nat}
    {t u : TypeId} {ty : TypeId} {e : TypeId} {te : TyI} {du : TypeDesc} (hd : P.underlying t = some (.slice e)) (hty : TyR P e te) (hu : P.underlying u = some du) (hdu : ∀ k, du ≠ .int k) {v vx : Value} {xs ys : List AV}
    (hs : 0 < te.size) (hb : te.bytes ≤ 1024) (hx : Src P w loc vx ys.length te.size (ys.flatMap AV.leaves)) (hyl : ∀ y ∈ ys, y.leaves.length = te.size) (hl : look H id = some (.g te.size xs)) (hv : Owns w loc id te.size 0 xs.length v)
    (hcx : closedL xs = true) (hcy : closedL ys = true) (hm : 0 < ys.length) (hn : xs.length + ys.length ≤ 4294967296) :
    ∃ u' w', (Builtin.append_ #[t, u] ty #[v, vx]).run P w = .ok u' w' ∧
      ((Post w0 E w loc true nm .junk (put H id (.g te.size (xs ++ ys))) u' w' loc ∧ R w' loc (.ms id te.size 0 (xs ++ ys).length) u') ∨ Post w0 E w loc true nm (.sg te.size (xs ++ ys) false) H u' w' loc) := by
  have hfr : loc.m id ≠ .free := by intro e; simp [Owns, e] at hv
  obtain ⟨hbok, hor⟩ := hh.get hl hfr
  have hok' : Blk.ok (.g te.size (xs ++ ys)) := ⟨hs, fun y hy => by
    rcases List.mem_append.1 hy with hy | hy
    · exact hbok.2 y hy
    · exact hyl y hy⟩
  have hcl : closedL (xs ++ ys) = true := by
    clear hn hm hl hv hx hyl hok' hbok hor
    induction xs with
    | nil => exact hcy
    | cons x r ih => simp only [List.cons_append, closedL, Bool.and_eq_true] at hcx ⊢; exact ⟨hcx.1, ih hcx.2⟩
  have hclx : ∀ (j : Nat) (hj : j < ((xs ++ ys).flatMap AV.leaves).length), ((xs ++ ys).flatMap AV.leaves)[j].closed = true := by
    intro j hj
    obtain ⟨y, hy, hyl⟩ := List.mem_flatMap.1 (List.getElem_mem hj)
    exact closed_leaves (closedL_mem hcl hy) _ hyl
  have hseen := seen_ms hh hv hl rfl (by simp [Blk.len])
  have hflx := flat_len hbok
  have hfull : ((Blk.g te.size xs).flat.drop (0 * te.size)).take (xs.length * te.size) = (Blk.g te.size xs).flat := by
    rw [Nat.zero_mul, List.drop_zero, List.take_of_length_le (by rw [hflx]; exact Nat.le_refl _)]
  rw [hfull] at hseen
  have anew : ∀ a cap, v = .slice a xs.length cap → xs.length ≤ cap → cap < xs.length + ys.length → ∃ u' w', (Builtin.append_ #[t, u] ty #[v, vx]).run P w = .ok u' w' ∧ Post w0 E w loc true nm (.sg te.size (xs ++ ys) false) H u' w' loc := by
    rintro a cap rfl hc1 hc2
    have hvs := src_seen (P := P) hseen
    obtain ⟨cd, d1, d2, d3, d4⟩ := hvs.src
    obtain ⟨cs, newCap, rest, w', c1, c2, c3, c4, c5, c6, c7, c8⟩ := run_append_new (P := P) (ty := ty) hd hty hu hdu hb hx d1 d4 hn hc1 hc2
    refine ⟨_, w', c8, post_anon he hh c7 fun hext => ?_⟩
    have hfl : (xs ++ ys).flatMap AV.leaves = (Blk.g te.size xs).flat ++ ys.flatMap AV.leaves := by simp [Blk.flat]
    have hl2 := d2.len
    have hl3 := c1.len
    have := R.sg (w := w') (loc := loc) te.size (xs ++ ys) false (some ⟨w.heap.size, 0, none⟩) newCap (cd ++ cs) ⟨by rw [List.length_append]; exact c3, c4, by simp⟩ hok'.2
      ⟨.inr ⟨w.heap.size, 0, rfl, not_mut_new he, by rw [c7.heap]; simp, fun j hj => by
        have hp := pushed_new c7
        have hjs : j < (cd.toArray ++ cs.toArray ++ rest).size := by simp at hj ⊢; omega
        simp only [World.cell?, hp, Nat.zero_add]
        rw [Array.getElem?_eq_getElem hjs, Array.getElem_append_left (by simp at hj ⊢; omega)]
        simp [List.append_toArray]⟩⟩
      (by rw [hfl, List.length_append, List.length_append, hl2, hl3]) (fun j hj => ⟨?_, hclx j hj⟩) (fun j p q => ?_)
    · rw [List.length_append] at this; exact this
    · have e : ((xs ++ ys).flatMap AV.leaves)[j] = ((Blk.g te.size xs).flat ++ ys.flatMap AV.leaves)[j]'(by rw [← hfl]; exact hj) := by congr 1
      rw [e]
      by_cases hc : j < (Blk.g te.size xs).flat.length
      · rw [List.getElem_append_left hc]; exact d2.leaf j hc
      · rw [List.getElem_append_right (by omega)]; exact c1.leaf _ _
    · have e : ((xs ++ ys).flatMap AV.leaves)[j] = ((Blk.g te.size xs).flat ++ ys.flatMap AV.leaves)[j]'(by rw [← hfl]; exact p) := by congr 1
      rw [e]
      by_cases hc : j < (Blk.g te.size xs).flat.length
      · rw [List.getElem_append_left hc, List.getElem_append_left (by omega)]; exact (d2.r j hc _).ext hext
      · rw [List.getElem_append_right (by omega), List.getElem_append_right (by omega)]
        have := (c1.r (j - (Blk.g te.size xs).flat.length) (by rw [hfl, List.length_append] at p; omega) (by rw [List.length_append] at q; omega)).ext hext
        simpa [hl2] using this
  rcases hor with hnil | ⟨b, hbb, hlies⟩
  · have h0 : xs = [] := List.length_eq_zero_iff.1 hnil.2
    have hv' := hv
    unfold Owns at hv'; rw [hnil.1] at hv'
    obtain ⟨_, a, rfl⟩ := hv'
    obtain ⟨u', w', h1, h2⟩ := anew a 0 (by rw [h0]; rfl) (by rw [h0]; exact Nat.le_refl _) (by omega)
    exact ⟨u', w', h1, .inr h2⟩
  · have hv' := hv
    unfold Owns at hv'; rw [hbb] at hv'
    obtain ⟨o, cap, cur, e0, fz, rfl, ho, hheap, hsz, hnc, htop⟩ := hv'
    by_cases hroom : xs.length + ys.length ≤ cap
    · obtain ⟨cs, c1, c2, c3, c4⟩ := hx.src
      obtain ⟨cur0, e1, fz0, hh0, hfz, hone, hlen0, hr⟩ := hlies.lies
      have hh1 := hh0
      rw [hheap] at hh0; injection hh0 with hh0; injection hh0 with q1 q2 q3; subst q1 q2 q3
      have hmul : xs.length * te.size + ys.length * te.size ≤ cap * te.size := by rw [← Nat.add_mul]; exact Nat.mul_le_mul_right _ hroom
      have ho := ho (by omega)
      rw [Nat.zero_mul] at ho
      subst ho
      rw [Nat.zero_add] at hsz
      have hflx' : (Blk.g te.size xs).flat.length = xs.length * te.size := hflx
      obtain ⟨w', cur', r1, r2, r3, r4, r5, r6, r7, r8, r9⟩ := run_storeCells' (P := P) b (xs.length * te.size) e0 fz cs 0 cur w hheap (fz_free hfz) (by omega) c2.one
      have hflat : (Blk.g te.size (xs ++ ys)).flat = (Blk.g te.size xs).flat ++ ys.flatMap AV.leaves := by simp [Blk.flat]
      have hcl2 := c2.len
      refine ⟨_, w', run_append_in (P := P) (ty := ty) hd hty hu hdu (a := some ⟨b, 0, none⟩) (n := xs.length) (cap := cap) (c3 w) (c4 w rfl) hroom (by simp only [addr_add, Nat.zero_add]; exact r1), .inl ⟨?_, ?_⟩⟩
      · refine post_write he hh hbb hheap r2 r3 r4 r5 r6 r7 r8 hok' hfz (fun j hj => ?_) (by rw [hflat, r3]; simp only [List.length_append]; omega) (fun j p q => ?_) (fun _ _ => .junk _)
        · have := r9 j (by rw [← r3]; exact hj)
          rw [Array.getElem?_eq_getElem hj] at this
          split at this
          · rw [List.getElem?_eq_getElem (by omega)] at this
            injection this with this
            rw [this]; exact c2.one _ (List.getElem_mem _)
          · rw [Array.getElem?_eq_getElem (by rw [← r3]; exact hj)] at this
            injection this with this
            rw [this]; exact hone j _
        · have h9 := r9 j (by rw [← r3]; exact q)
          rw [Array.getElem?_eq_getElem q] at h9
          have hg : (Blk.g te.size (xs ++ ys)).flat[j] = ((Blk.g te.size xs).flat ++ ys.flatMap AV.leaves)[j]'(by rw [← hflat]; exact p) := by congr 1
          rw [hg]
          rw [hflat, List.length_append] at p
          by_cases hc : j < (Blk.g te.size xs).flat.length
          · rw [if_neg (by omega), Array.getElem?_eq_getElem (by rw [← r3]; exact q)] at h9
            injection h9 with h9
            rw [List.getElem_append_left hc, h9]
            exact hr j hc (by rw [← r3]; exact q)
          · rw [if_pos (by omega), List.getElem?_eq_getElem (by omega)] at h9
            injection h9 with h9
            rw [List.getElem_append_right (by omega), h9]
            refine ⟨c2.leaf _ (by omega), ?_⟩
            have := c2.r (j - (Blk.g te.size xs).flat.length) (by omega) (by omega)
            simpa [hflx'] using this
      · refine .ms _ _ _ _ _ ?_
        unfold Owns; rw [hbb]
        exact ⟨0, cap, cur', e0, fz, by rw [List.length_append], fun _ => by simp, r2, by rw [r3]; simpa using hsz, by rw [List.length_append]; exact hroom, htop⟩
    · obtain ⟨u', w', h1, h2⟩ := anew _ cap rfl hnc (by omega)
      exact ⟨u', w', h1, .inr h2⟩

/-- An append whose elder slice stays: what is asked; the slice that is told; the block that is given up as one that may be written, and what it held. -/
structure KOut where
  p : Prop
  x : AV
  id : Nat
  s : Nat
  xs : List AV
def badK : KOut := ⟨False, .junk, 0, 0, []⟩
def keepA (T : Types) (sl : List AV) (op : Op) (H : Heap) : KOut :=
  match op with
  | .call c => match c.callee with
    | .builtin .append => match c.args.toList, c.argTypes.toList with
      | [d, x], [t, u] => match T t, T u with
        | some ti, some tu => match ti.d, tu.d with
          | .slice e, .slice _ => match T e with
            | some te => match ev sl d with
              | .ms id s off len => match look H id with
                | some (.g s' xs) => ⟨s = te.size ∧ s' = te.size ∧ off = 0 ∧ len = xs.length ∧ 0 < te.size ∧ te.bytes ≤ 1024 ∧ (viewG te.size H (ev sl x)).1 ∧ closedL xs = true ∧ closedL (viewG te.size H (ev sl x)).2 = true ∧ 0 < (viewG te.size H (ev sl x)).2.length ∧ xs.length + (viewG te.size H (ev sl x)).2.length ≤ top,
                    .sg te.size (xs ++ (viewG te.size H (ev sl x)).2) false, id, te.size, xs⟩
                | _ => badK
              | _ => badK
            | none => badK
          | _, _ => badK
        | _, _ => badK
      | _, _ => badK
    | _ => badK
  | _ => badK

theorem lies_take {w : World} {loc : Loc} {s : Nat} {xs ys : List AV} {b : Nat} (h : Lies w loc (.g s (xs ++ ys)) b) : Lies w loc (.g s xs) b := by
  obtain ⟨cur, e, fz, h1, h2, h3, h4, h5⟩ := h.lies
  have hf : (Blk.g s (xs ++ ys)).flat = (Blk.g s xs).flat ++ (Blk.g s ys).flat := by simp [Blk.flat]
  rw [hf, List.length_append] at h4
  refine ⟨cur, e, fz, h1, h2, h3, by omega, fun j p q => ?_⟩
  have := h5 j (by rw [hf, List.length_append]; omega) q
  have e1 : (Blk.g s (xs ++ ys)).flat[j]'(by rw [hf, List.length_append]; omega) = (Blk.g s xs).flat[j] := by
    have e2 : (Blk.g s (xs ++ ys)).flat[j]'(by rw [hf, List.length_append]; omega) = ((Blk.g s xs).flat ++ (Blk.g s ys).flat)[j]'(by rw [List.length_append]; omega) := by congr 1
    rw [e2, List.getElem_append_left p]
  rw [e1] at this
  exact this

theorem fgH_put {id s : Nat} {zs : List AV} {H : Heap} {b : Blk} : fgH id s zs (put H id b) = fgH id s zs H := by
  show (bif id == id then fgH id s zs H else _) = _
  rw [beq_self_eq_true]; rfl

theorem keep_step {w0 : World} {E : Nat → Prop} {B : Bs} {T : Types} (hT : TOk P T) {sl : List AV} {H : Heap} {nm : Nat} {a : Act} {w : World} {loc : Loc} (hB : Base w0 B w loc) (hr : Rel' w0 E loc ⟨sl, H, nm⟩ a w) (o : Oper) (hp : (keepA T sl o.op H).p)
    (next : Act → World → Prop) (Q : Exit → Act → World → Prop)
    (hn : ∀ a' w' loc', Base w0 B w' loc' → Rel' w0 E loc' ⟨putSlot (fgL (keepA T sl o.op H).id (keepA T sl o.op H).s (keepA T sl o.op H).xs sl) o.dst (keepA T sl o.op H).x, fgH (keepA T sl o.op H).id (keepA T sl o.op H).s (keepA T sl o.op H).xs H, nm + 8⟩ a' w' → next a' w') : o.wp P a w next Q := by
  unfold keepA at hp hn
  cases ho : o.op with
  | call c =>
    simp only [ho] at hp hn
    obtain ⟨callee, args, argTypes⟩ := c
    simp only at hp hn
    cases callee with
    | builtin bb =>
      cases bb with
      | append =>
        simp only at hp hn
        split at hp
        · rename_i d x t u hax hat
          obtain rfl : args = #[d, x] := by rw [← Array.toList_inj]; simpa using hax
          obtain rfl : argTypes = #[t, u] := by rw [← Array.toList_inj]; simpa using hat
          simp only at hn
          cases ht : T t with
          | none => simp [ht, badK] at hp
          | some ti =>
            cases htu : T u with
            | none => simp [ht, htu, badK] at hp
            | some tu =>
              simp only [ht, htu] at hp hn
              have hd := (hT t ti ht).d
              have hud := (hT u tu htu).d
              cases hdd : ti.d with
              | slice e =>
                cases hdu : tu.d with
                | slice e' =>
                  simp only [hdd, hdu] at hp hn
                  rw [hdd] at hd
                  rw [hdu] at hud
                  have hd : P.underlying t = some (.slice e) := hd
                  have hud : P.underlying u = some (.slice e') := hud
                  cases hte : T e with
                  | none => simp [hte, badK] at hp
                  | some te =>
                    simp only [hte] at hp hn
                    have hty := hT _ te hte
                    have hv : R w loc (ev sl d) (a.eval d) := ev_R hr.slots d
                    have hx : R w loc (ev sl x) (a.eval x) := ev_R hr.slots x
                    generalize hxd : ev sl d = dv at hp hn hv
                    cases dv with
                    | ms id s off len =>
                      simp only at hp hn
                      cases hl : look H id with
                      | none => simp [hl, badK] at hp
                      | some blk =>
                        cases blk with
                        | g s' xs =>
                          simp only [hl] at hp hn
                          obtain ⟨rfl, rfl, rfl, rfl, hs, hb, hvw, hcx, hcy, hm, htop⟩ := hp
                          obtain ⟨v1, v2⟩ := viewG_sound hs hr.heap hx hvw
                          generalize (viewG te.size H (ev sl x)).2 = ys at hn hcy hm htop v1 v2
                          have hv0 := hv
                          cases hv with
                          | ms _ _ _ _ _ hown =>
                            obtain ⟨u', w', hrun, hor⟩ := keep_runs (P := P) (ty := o.type) (nm := nm) hr.env hr.heap hd hty hud (by simp) hs hb (src_seen (P := P) v1) v2 hl hown hcx hcy hm htop
                            have hwp : (execOp a.eval o).run P w = .ok (.value u') w' := by
                              simp only [execOp, ho, resolve, invoke, builtin, Sem.run_bind, Sem.run_pure, Result.andThen_ok]
                              simp [hrun]
                            unfold Oper.wp
                            rw [hwp]
                            have hclxy : closedL (xs ++ ys) = true := closedL_append hcx hcy
                            have hlive : loc.m id ≠ .free := by intro e; simp [Owns, e] at hown
                            rcases hor with ⟨hpost, hR⟩ | hpost
                            · have hB1 := hB.post hpost
                              have hr1 := rel_post hr hpost (fun k b hk => by
                                rw [look_put] at hk
                                split at hk
                                · rename_i e; subst e; exact .inl (by rw [hl]; simp)
                                · exact .inl (by rw [hk]; simp)) o.dst
                              have hblk := hr1.heap id (.g te.size (xs ++ ys)) (by simp [look_put])
                              have hblk0 : BlkR w' loc id (.g te.size xs) := by
                                unfold BlkR at hblk ⊢
                                split
                                · trivial
                                · rename_i e; rw [e] at hblk; exact hblk
                                · rename_i e
                                  rw [e] at hblk
                                  have h8 := hblk.2
                                  rw [show (Blk.g te.size (xs ++ ys)).len = (xs ++ ys).length from rfl, List.length_append] at h8
                                  omega
                                · rename_i b e; rw [e] at hblk; exact ⟨⟨hs, fun y hy => hblk.1.2 y (List.mem_append_left _ hy)⟩, lies_take hblk.2⟩
                              obtain ⟨hB2, hr2⟩ := rel_fg hB1 hr1 hlive hblk0 hcx
                              have hdata : R w' (loc.set id .dead) (.sg te.size (xs ++ ys) false) u' := by
                                have hor : (loc.m id = .nil ∧ (xs ++ ys) = []) ∨ ∃ b, loc.m id = .here b ∧ b < w'.heap.size ∧ Lies w' loc (.g te.size (xs ++ ys)) b ∧ (∀ k, loc.m k = .here b → k = id) ∧ ¬ loc.bad b := by
                                  unfold BlkR at hblk
                                  cases e : loc.m id with
                                  | free => exact (hlive e).elim
                                  | dead => rw [e] at hblk; exact hblk.elim
                                  | nil => rw [e] at hblk; exact .inl ⟨rfl, List.eq_nil_of_length_eq_zero hblk.2⟩
                                  | here b =>
                                    rw [e] at hblk
                                    have h1 := hr1.env.lies id b e
                                    refine .inr ⟨b, rfl, h1.1, hblk.2, fun k hk => hr1.env.inj k id b hk e, fun hb => ?_⟩
                                    have h2 := hr1.env.bad b hb
                                    rcases h1.2 with h3 | h3
                                    · omega
                                    · exact h2.2 h3
                                have hokk : Blk.ok (.g te.size (xs ++ ys)) := by
                                  unfold BlkR at hblk
                                  split at hblk
                                  · rename_i e; exact (hlive e).elim
                                  · exact hblk.elim
                                  · exact hblk.1
                                  · exact hblk.1
                                have := fg_R hclxy hokk hor hR
                                have e : (AV.ms id te.size 0 (xs ++ ys).length).fg id te.size (xs ++ ys) = .sg te.size (xs ++ ys) false := by
                                  simp only [AV.fg, beq_self_eq_true, cond_true, Nat.zero_add, Nat.le_refl, decide_true, Bool.and_self, List.drop_zero, List.take_length]
                                rwa [e] at this
                              refine hn _ _ _ hB2 ?_
                              have hsl : ∀ t, R w' (loc.set id .dead) (slot (putSlot (fgL id te.size xs sl) o.dst (.sg te.size (xs ++ ys) false)) t) ((a.put o.dst u').tmps.getD t undef) := by
                                intro t
                                have h3 := hr2.slots t
                                simp only at h3
                                cases hdst : o.dst with
                                | none => rw [hdst] at h3; exact h3
                                | some dt =>
                                  rw [hdst] at h3
                                  simp only [putSlot] at h3 ⊢
                                  by_cases htd : dt = t
                                  · subst htd
                                    have hsz : a.tmps.size = sl.length := hr.size
                                    by_cases hlt : dt < sl.length
                                    · rw [slot_set_same (by rw [(fgL_get id te.size xs sl).1]; exact hlt)]
                                      have : (a.put (some dt) u').tmps.getD dt undef = u' := by simp [Act.put, hsz, hlt]
                                      rw [this]; exact hdata
                                    · rw [slot_ge (by rw [setSlot_length, (fgL_get id te.size xs sl).1]; exact Nat.le_of_not_lt hlt)]
                                      exact .junk _
                                  · rw [slot_set_other htd, slot_fgL]
                                    rw [slot_fgL, slot_set_other htd] at h3
                                    exact h3
                              refine ⟨?_, hsl, ?_, hr2.env, hr2.fresh, hr2.defers, ?_⟩
                              · have := hr2.size
                                simp only [putSlot_length, (fgL_get id te.size xs _).1] at this ⊢
                                exact this
                              · have := hr2.heap; rw [fgH_put] at this; exact this
                              · intro k b hk
                                obtain ⟨_, c, h2, _⟩ := fgH_get hk
                                have := hr.low k c h2
                                simp at this ⊢; omega
                            · have hB1 := hB.post hpost
                              have hr1 := rel_post hr hpost (fun k b hk => .inl (by rw [hk]; simp)) o.dst
                              have hblk0 := hr1.heap id (.g te.size xs) hl
                              obtain ⟨hB2, hr2⟩ := rel_fg hB1 hr1 hlive hblk0 hcx
                              refine hn _ _ _ hB2 ?_
                              refine ⟨?_, fun t => ?_, hr2.heap, hr2.env, hr2.fresh, hr2.defers, hr2.low⟩
                              · have := hr2.size
                                simp only [putSlot_length, (fgL_get id te.size xs _).1] at this ⊢
                                exact this
                              · have h3 := hr2.slots t
                                simp only at h3 ⊢
                                cases hdst : o.dst with
                                | none => rw [hdst] at h3; exact h3
                                | some dt =>
                                  rw [hdst] at h3
                                  simp only [putSlot] at h3 ⊢
                                  by_cases htd : dt = t
                                  · subst htd
                                    by_cases hlt : dt < sl.length
                                    · rw [slot_set_same (by rw [(fgL_get id te.size xs sl).1]; exact hlt)]
                                      rw [slot_fgL, slot_set_same hlt] at h3
                                      exact h3
                                    · rw [slot_ge (by rw [setSlot_length, (fgL_get id te.size xs sl).1]; exact Nat.le_of_not_lt hlt)]
                                      exact .junk _
                                  · rw [slot_set_other htd, slot_fgL]
                                    rw [slot_fgL, slot_set_other htd] at h3
                                    exact h3
                        | _ => simp [hl, badK] at hp
                    | _ => exact hp.elim
                | _ => simp [hdd, hdu, badK] at hp
              | _ => simp [hdd, badK] at hp
        · exact hp.elim
      | _ => exact hp.elim
    | _ => exact hp.elim
  | _ => rw [ho] at hp; exact hp.elim
end
end Ax
end Go.Proofs.Ytgkkgbomhfdbkaa
