/- Code where some calls are handed blocks that reach each other. -/
import Derived.Test.YtlbdhkgjhjcgiaaAxO
import Derived.Test.YtlbdhkgjhjcgiaaAxTd
namespace Go.Proofs.Ytlbdhkgjhjcgiaa
namespace Ax
open Go.RowKit
set_option linter.unusedSimpArgs false
set_option linter.unusedVariables false

def FnsO (P : Program) (S : FSpecs) : Prop := ∀ f s, S f = some s → Entered P f ∧ SoundO P f s

def noO : FSpecs := fun _ => none
theorem noO_ok {P : Program} : FnsO P noO := fun f s h => by cases h

def openOp (SO : FSpecs) (T : Types) (nm : Nat) (sl : List AV) (op : Op) (H : Heap) : Out :=
  match op with
  | .call c => match c.callee with
    | .value f => match ev sl f with
      | .fn f [] => aOpen SO nm f (coes T c.argTypes.toList (evs sl c.args.toList)) H
      | _ => bad
    | _ => bad
  | _ => bad

theorem open_sound {P : Program} {w0 : World} {E : Nat → Prop} {w : World} {loc : Loc} {H : Heap} {T : Types} {SO : FSpecs} (hS : FnsO P SO) (he : Env w0 E w loc) (hh : HR w loc H) {nm : Nat} (hfree : ∀ id, nm ≤ id → id < nm + 8 → loc.m id = .free) {sl : List AV} {a : Act} (o : Oper)
    (hev : ∀ x, R w loc (ev sl x) (a.eval x)) (hp : (openOp SO T nm sl o.op H).p) : Sd P w0 E w loc true nm (openOp SO T nm sl o.op H) o a := by
  cases ho : o.op with
  | call c =>
    obtain ⟨callee, args, argTypes⟩ := c
    cases callee with
    | value f =>
      have hfv := hev f
      simp only [openOp, ho] at hp ⊢
      generalize ev sl f = xf at hfv hp ⊢
      split at hp
      · rename_i g
        cases hv : a.eval f with
        | func fn first captured =>
          rw [hv] at hfv
          cases hfv with
          | fn _ _ cs hlc hc =>
            obtain rfl : cs = [] := List.eq_nil_of_length_eq_zero hlc.symm
            obtain ⟨e1, e2⟩ := evs_R (w := w) (loc := loc) (sl := sl) (a := a) args.toList (fun x _ => hev x)
            obtain ⟨c1, c2⟩ := coes_R (T := T) (w := w) (loc := loc) argTypes.toList (evs sl args.toList)
            have c2 := c2 (args.toList.map a.eval) e2
            cases hsg : SO g with
            | none => simp [aOpen, hsg, bad] at hp
            | some sp =>
              obtain ⟨⟨fn, hfn, hbody, hname⟩, hsound⟩ := hS g sp hsg
              have hcall := call_postO (P := P) he hh hfree (SO := SO) (fun f s h => (hS f s h).2) (f := g) (by rw [c1, e1]; simp) c2 hp
              have hrun : (execOp a.eval o).run P w = .ok (.enter g (args.toList.map a.eval).toArray) w := by
                have h1 : fn.name ≠ "runtime.NumGoroutine" := by simpa using hname
                have hb' : fn.body ≠ none := by intro e; rw [e] at hbody; simp at hbody
                have h9 : Array.map a.eval args = (args.toList.map a.eval).toArray := by rw [← Array.toList_inj]; simp
                simp [execOp, ho, resolve, hv, Deferred.ofValue, invoke, callFunc, hfn, h1, hb', h9]
              intro next Q hn
              unfold Oper.wp
              rw [hrun]
              refine hcall.mono ?_
              rintro e w' ⟨v, loc', rfl, h1⟩
              exact hn v w' loc' h1
        | _ => rw [hv] at hfv; cases hfv
      · exact hp.elim
    | _ => simp [openOp, ho, bad] at hp
  | _ => simp [openOp, ho, bad] at hp

theorem walk_look {H : Heap} : ∀ (ids good : List Nat), walk H good ids = true → ∀ id ∈ ids, look H id ≠ none
  | [], _, _, id, hid => by simp at hid
  | k :: r, good, hw, id, hid => by
    simp only [walk, Bool.and_eq_true] at hw
    cases hl : look H k with
    | none => simp [hl] at hw
    | some blk =>
      simp only [hl] at hw
      rcases List.mem_cons.1 hid with rfl | hid
      · rw [hl]; simp
      · exact walk_look r _ hw.2 id hid
theorem hnew_open {SO : FSpecs} {T : Types} {sl : List AV} {op : Op} {nm : Nat} {H : Heap} : Hnew nm H (openOp SO T nm sl op H) := by
  unfold openOp
  split
  · split
    · split
      · unfold aOpen
        split
        · rename_i f _ spec hs
          intro hp id b hl
          simp only [openOut] at hp hl
          generalize reach H 12 [] (idsL _) = ids at *
          obtain ⟨⟨hnd, hwalk, hain, hpin⟩, hsp, hb1, hb2⟩ := hp
          rcases look_backO _ _ _ hl with ⟨j, hj, h1, h2⟩ | ⟨h1, h2⟩
          · rw [Nat.zero_add] at h1
            by_cases hjl : j < ids.length
            · rw [gOf_old hjl] at h1
              left
              rw [← h1]
              exact walk_look ids _ hwalk _ (List.getElem_mem hjl)
            · rw [gOf_new (by omega)] at h1
              right; omega
          · exact .inl (by rw [h1]; simp)
        · exact hok_bad.new
      · exact hok_bad.new
    · exact hok_bad.new
  · exact hok_bad.new

def aopsO (S SO : FSpecs) (T : Types) (ops : List Oper) : Nat → Nat → List Oper → List AV → Heap → (List AV → Heap → Prop) → Prop
  | _, _, [], sl, H, Q => Q sl H
  | 0, nm, o :: r, sl, H, Q => o.guard = none ∧ (openOp SO T nm sl o.op H).p ∧ aops S T ops (nm + 8) r (putSlot sl o.dst (openOp SO T nm sl o.op H).x) (openOp SO T nm sl o.op H).H Q
  | k + 1, nm, o :: r, sl, H, Q => o.guard = none ∧ (aop S T nm sl o.op H).p ∧ aopsO S SO T ops k (nm + 8) r (putSlot sl o.dst (aop S T nm sl o.op H).x) (aop S T nm sl o.op H).H Q

theorem aopsO_sound {P : Program} {w0 : World} {E : Nat → Prop} {T : Types} {S SO : FSpecs} (hT : TOk P T) (hS : Fns P S) (hSO : FnsO P SO) {ops : Array Oper} {K : Exit → Act → World → Prop} {Q : List AV → Heap → Prop} {B : Bs} {nz : Nat}
    (hK : ∀ sl H a w loc, Base w0 B w loc → Rel' w0 E loc ⟨sl, H, nz⟩ a w → Q sl H → K .normal a w) : ∀ (k : Nat) (r : List Oper) (nm : Nat) (sl : List AV) (H : Heap) (a : Act) (w : World) (loc : Loc), nz = nm + 8 * r.length → Base w0 B w loc →
    Rel' w0 E loc ⟨sl, H, nm⟩ a w → aopsO S SO T ops.toList k nm r sl H Q → wpList P ops K r a w
  | k, [], nm, sl, H, a, w, loc, hz, hb, hr, h => by
    simp only [List.length_nil, Nat.mul_zero, Nat.add_zero] at hz
    subst hz
    exact wpList_nil (hK sl H a w loc hb hr (by cases k <;> exact h))
  | 0, o :: r, nm, sl, H, a, w, loc, hz, hb, hr, h => by
    have hz' : nz = nm + 8 + 8 * r.length := by simp at hz; omega
    obtain ⟨hg, hp, hrest⟩ := h
    refine wpList_step fun Kn hKn => ?_
    rw [if_pos (by simp [Region.wanted, hg])]
    have hop := open_sound (T := T) hSO hr.env hr.heap (fun id h1 _ => hr.fresh id h1) o (fun x => ev_R hr.slots x) hp
    exact hop Kn K (fun v w' loc' hpost => hKn _ _ (aops_sound (ops := ops) hT hS hK r (nm + 8) _ _ _ w' loc' hz' (hb.post hpost) (rel_post hr hpost (hnew_open hp) o.dst) hrest))
  | k + 1, o :: r, nm, sl, H, a, w, loc, hz, hb, hr, h => by
    have hz' : nz = nm + 8 + 8 * r.length := by simp at hz; omega
    obtain ⟨hg, hp, hrest⟩ := h
    refine wpList_step fun Kn hKn => ?_
    rw [if_pos (by simp [Region.wanted, hg])]
    have hop := aop_sound hT hS hr.env hr.heap (fun id h1 _ => hr.fresh id h1) o (fun x _ => ev_R hr.slots x) hp
    exact hop Kn K (fun v w' loc' hpost => hKn _ _ (aopsO_sound hT hS hSO hK k r (nm + 8) _ _ _ w' loc' hz' (hb.post hpost) (rel_post hr hpost (hnew_aop hp) o.dst) hrest))

/-- What a few operations give that are told in a way of their own: a slice asked whether it is nil (of one that is empty the answer is not known); a slice built of nothing; nothing appended to such a one. -/
def specOp (T : Types) (sl : List AV) (op : Op) (K : AV → Prop) : Prop :=
  match op with
  | .binOp .eql t x (.const (.slice none 0 0)) _ => match T t with
    | some ti => match ti.d with
      | .slice _ => match ev sl x with
        | .sg s xs _ => 0 < s ∧ ∀ b, (b = true → xs.length = 0) → K (.w (.bool b))
        | .sb xs _ => ∀ b, (b = true → xs.length = 0) → K (.w (.bool b))
        | .si xs _ => ∀ b, (b = true → xs.length = 0) → K (.w (.bool b))
        | _ => False
      | _ => False
    | none => False
  | .buildSlice t 0 ps => match T t with
    | some ti => match ti.d with
      | .slice e => match T e with
        | some te => ps = #[] ∧ 0 < te.size ∧ K (.sg te.size [] true)
        | none => False
      | _ => False
    | none => False
  | .call c => match c.callee with
    | .builtin .append => match c.args.toList, c.argTypes.toList with
      | [x, y], [t, u] => match T t, T u with
        | some ti, some tu => match ti.d, tu.d with
          | .slice e, .slice _ => match T e with
            | some te => match ev sl x, ev sl y with
              | .sg s [] true, .sg _ [] _ => 0 < te.size ∧ K (.sg s [] true)
              | .sg s [] true, .sb [] _ => 0 < te.size ∧ K (.sg s [] true)
              | .sg s [] true, .si [] _ => 0 < te.size ∧ K (.sg s [] true)
              | _, _ => False
            | none => False
          | _, _ => False
        | _, _ => False
      | _, _ => False
    | _ => False
  | _ => False
theorem append_none {P : Program} {t u ty e e' : TypeId} {te : TyI} (hd : P.underlying t = some (.slice e)) (hu : P.underlying u = some (.slice e')) (hty : TyR P e te) (a a' : Option Addr) (c : Nat) (w : World) :
    (Builtin.append_ #[t, u] ty #[.slice a 0 0, .slice a' 0 c]).run P w = .ok (.slice a 0 0) w := by
  have hsz := fun W => run_sizeOf' (P := P) hty W
  have hlc : ∀ (b : Addr) W, (loadCells b 0).run P W = .ok #[] W := fun b W => by simp [loadCells, loadCellsFrom]
  have hst : ∀ (b : Addr) W, (storeCells b []).run P W = .ok () W := fun b W => by simp [storeCells]
  unfold Builtin.append_
  cases a <;> cases a' <;> simp [run_underlying hd, run_underlying hu, hsz, Builtin.lenOf, Builtin.firstCells, hlc, hst]
theorem specOp_sound {P : Program} {w0 : World} {E : Nat → Prop} {T : Types} (hT : TOk P T) {w : World} {loc : Loc} {H : Heap} (he : Env w0 E w loc) (hh : HR w loc H) {nm : Nat} {sl : List AV} {a : Act} {op : Op} {K : AV → Prop} (hev : ∀ x, R w loc (ev sl x) (a.eval x)) (h : specOp T sl op K) :
    ∃ x v w', K x ∧ Post w0 E w loc true nm x H v w' loc ∧ ∀ o : Oper, o.op = op → (execOp a.eval o).run P w = .ok (.value v) w' := by
  unfold specOp at h
  split at h
  · rename_i t x yt
    cases ht : T t with
    | none => simp [ht] at h
    | some ti =>
      simp only [ht] at h
      split at h
      · rename_i e hd
        have hu : ∃ e, P.underlying t = some (.slice e) := by
          have := (hT t ti ht).d
          rw [hd] at this
          exact ⟨_, this⟩
        obtain ⟨e, hu⟩ := hu
        have hx := hev x
        generalize ev sl x = xv at hx h
        split at h
        · rename_i s xs f
          obtain ⟨hs, h⟩ := h
          generalize hv : a.eval x = v at hx
          cases hx with
          | sg _ _ _ ad cap cs hd hs' hc hl hx' _ =>
            refine ⟨_, .bool ad.isNone, w, h ad.isNone fun hn => ?_, Post.pure (.w _ rfl) hh he, fun o ho => ?_⟩
            · cases xs with
              | nil => rfl
              | cons y ys =>
                exfalso
                obtain rfl : ad = none := by simpa using hn
                rcases hc.lies with rfl | ⟨b, o, he, _⟩
                · have := hs' y (by simp)
                  rw [List.flatMap_cons, List.length_append, List.length_nil] at hl
                  omega
                · cases he
            · have heq : ∀ d, (Op.equalIn (d + 1) t (.slice ad xs.length cap) (.slice none 0 0)).run P w = .ok ad.isNone w := fun d => by cases ad <;> simp [Op.equalIn, run_underlying hu]
              have heq := heq 9999
              have h2 : (Op.equal t (.slice ad xs.length cap) (.slice none 0 0)).run P w = .ok ad.isNone w := heq
              simp only [execOp, ho, hv]
              simp [guard_free (u := .slice ad xs.length cap) rfl (by simp), binOp, h2, Act.eval]
        · rename_i xs f
          generalize hv : a.eval x = v at hx
          cases hx with
          | sb _ _ ad cap hd hc =>
            refine ⟨_, .bool ad.isNone, w, h ad.isNone fun hn => ?_, Post.pure (.w _ rfl) hh he, fun o ho => ?_⟩
            · cases xs with
              | nil => rfl
              | cons y ys =>
                exfalso
                obtain rfl : ad = none := by simpa using hn
                rcases hc.lies with hcs | ⟨b, o, he, _⟩
                · simp at hcs
                · cases he
            · have heq : ∀ d, (Op.equalIn (d + 1) t (.slice ad xs.length cap) (.slice none 0 0)).run P w = .ok ad.isNone w := fun d => by cases ad <;> simp [Op.equalIn, run_underlying hu]
              have heq := heq 9999
              have h2 : (Op.equal t (.slice ad xs.length cap) (.slice none 0 0)).run P w = .ok ad.isNone w := heq
              simp only [execOp, ho, hv]
              simp [guard_free (u := .slice ad xs.length cap) rfl (by simp), binOp, h2, Act.eval]
        · rename_i xs f
          generalize hv : a.eval x = v at hx
          cases hx with
          | si _ _ ad cap hd hc =>
            refine ⟨_, .bool ad.isNone, w, h ad.isNone fun hn => ?_, Post.pure (.w _ rfl) hh he, fun o ho => ?_⟩
            · cases xs with
              | nil => rfl
              | cons y ys =>
                exfalso
                obtain rfl : ad = none := by simpa using hn
                rcases hc.lies with hcs | ⟨b, o, he, _⟩
                · simp at hcs
                · cases he
            · have heq : ∀ d, (Op.equalIn (d + 1) t (.slice ad xs.length cap) (.slice none 0 0)).run P w = .ok ad.isNone w := fun d => by cases ad <;> simp [Op.equalIn, run_underlying hu]
              have heq := heq 9999
              have h2 : (Op.equal t (.slice ad xs.length cap) (.slice none 0 0)).run P w = .ok ad.isNone w := heq
              simp only [execOp, ho, hv]
              simp [guard_free (u := .slice ad xs.length cap) rfl (by simp), binOp, h2, Act.eval]
        · exact h.elim
      · exact h.elim
  · rename_i t ps
    cases ht : T t with
    | none => simp [ht] at h
    | some ti =>
      simp only [ht] at h
      split at h
      · rename_i e hd
        have hu : P.underlying t = some (.slice e) := by
          have := (hT t ti ht).d
          rw [hd] at this
          exact this
        cases hte : T e with
        | none => simp [hte] at h
        | some te =>
          simp only [hte] at h
          obtain ⟨rfl, hs, hK⟩ := h
          have hty := hT _ te hte
          obtain ⟨z, z1, z2, z3⟩ := run_zeroValue' hty w
          have hrun := run_buildSlice' (P := P) (t := t) (n := 0) (pv := #[]) (cs := #[]) hu hty z1 hs (by omega) (by simp [Instr.fill])
          refine ⟨_, .slice (some ⟨w.heap.size, 0, none⟩) 0 0, { w with heap := w.heap.push (.cells #[] e) }, hK, post_anon (o := .cells #[] e) he hh ⟨rfl, rfl, rfl, rfl⟩ (fun _ => .sg _ [] true _ 0 [] ⟨Nat.le_refl _, Nat.zero_le _, fun _ => rfl⟩ (by simp) ⟨.inl rfl⟩ rfl (by simp) (by simp)), fun o ho => ?_⟩
          simp [execOp, ho, hrun]
      · exact h.elim
  · rename_i c
    obtain ⟨callee, args, argTypes⟩ := c
    simp only at h
    split at h
    · split at h
      · rename_i d x t u ha hb
        cases ht : T t with
        | none => simp [ht] at h
        | some ti =>
          cases htu : T u with
          | none => simp [ht, htu] at h
          | some tu =>
            simp only [ht, htu] at h
            have hd := (hT t ti ht).d
            have hud := (hT u tu htu).d
            split at h
            · rename_i e e' hdd hdu
              rw [hdd] at hd
              rw [hdu] at hud
              have hd : P.underlying t = some (.slice e) := hd
              have hud : P.underlying u = some (.slice e') := hud
              cases hte : T e with
              | none => simp [hte] at h
              | some te =>
                simp only [hte] at h
                have hty := hT _ te hte
                have hdv := hev d
                have hxv := hev x
                generalize ev sl d = dv at hdv h
                generalize ev sl x = xv at hxv h
                split at h
                · rename_i s s' f'
                  obtain ⟨hs, hK⟩ := h
                  obtain rfl : args = #[d, x] := by rw [← Array.toList_inj]; exact ha
                  obtain rfl : argTypes = #[t, u] := by rw [← Array.toList_inj]; exact hb
                  generalize hv1 : a.eval d = v1 at hdv
                  generalize hv2 : a.eval x = v2 at hxv
                  cases hdv with
                  | sg _ _ _ ad cap cs hdm hs' hc hl hx' hh' =>
                    obtain rfl : cap = 0 := hdm.full rfl
                    cases hxv with
                    | sg _ _ _ ad2 cap2 cs2 hdm2 hs2 hc2 hl2 hx2 hh2 =>
                      refine ⟨_, .slice ad 0 0, w, hK, Post.pure (.sg _ [] true ad 0 cs hdm hs' hc hl hx' hh') hh he, fun o ho => ?_⟩
                      have h1 := append_none (P := P) (ty := o.type) hd hud hty ad ad2 cap2 w
                      simp only [execOp, ho, resolve, invoke, builtin, Sem.run_bind, Sem.run_pure, Result.andThen_ok]
                      simp [hv1, hv2, h1]
                · rename_i s f'
                  obtain ⟨hs, hK⟩ := h
                  obtain rfl : args = #[d, x] := by rw [← Array.toList_inj]; exact ha
                  obtain rfl : argTypes = #[t, u] := by rw [← Array.toList_inj]; exact hb
                  generalize hv1 : a.eval d = v1 at hdv
                  generalize hv2 : a.eval x = v2 at hxv
                  cases hdv with
                  | sg _ _ _ ad cap cs hdm hs' hc hl hx' hh' =>
                    obtain rfl : cap = 0 := hdm.full rfl
                    cases hxv with
                    | sb _ _ ad2 cap2 hdm2 hc2 =>
                      refine ⟨_, .slice ad 0 0, w, hK, Post.pure (.sg _ [] true ad 0 cs hdm hs' hc hl hx' hh') hh he, fun o ho => ?_⟩
                      have h1 := append_none (P := P) (ty := o.type) hd hud hty ad ad2 cap2 w
                      simp only [execOp, ho, resolve, invoke, builtin, Sem.run_bind, Sem.run_pure, Result.andThen_ok]
                      simp [hv1, hv2, h1]
                · rename_i s f'
                  obtain ⟨hs, hK⟩ := h
                  obtain rfl : args = #[d, x] := by rw [← Array.toList_inj]; exact ha
                  obtain rfl : argTypes = #[t, u] := by rw [← Array.toList_inj]; exact hb
                  generalize hv1 : a.eval d = v1 at hdv
                  generalize hv2 : a.eval x = v2 at hxv
                  cases hdv with
                  | sg _ _ _ ad cap cs hdm hs' hc hl hx' hh' =>
                    obtain rfl : cap = 0 := hdm.full rfl
                    cases hxv with
                    | si _ _ ad2 cap2 hdm2 hc2 =>
                      refine ⟨_, .slice ad 0 0, w, hK, Post.pure (.sg _ [] true ad 0 cs hdm hs' hc hl hx' hh') hh he, fun o ho => ?_⟩
                      have h1 := append_none (P := P) (ty := o.type) hd hud hty ad ad2 cap2 w
                      simp only [execOp, ho, resolve, invoke, builtin, Sem.run_bind, Sem.run_pure, Result.andThen_ok]
                      simp [hv1, hv2, h1]
                · exact h.elim
            · exact h.elim
      · exact h.elim
    · exact h.elim
  · exact h.elim
def aopsT (S : FSpecs) (T : Types) (ops : List Oper) : List Bool → Nat → List Oper → List AV → Heap → (List AV → Heap → Prop) → Prop
  | _, _, [], sl, H, Q => Q sl H
  | [], nm, r, sl, H, Q => aops S T ops nm r sl H Q
  | true :: l, nm, o :: r, sl, H, Q => o.guard = none ∧ specOp T sl o.op (fun x => aopsT S T ops l (nm + 8) r (putSlot sl o.dst x) H Q)
  | false :: l, nm, o :: r, sl, H, Q => o.guard = none ∧ (aop S T nm sl o.op H).p ∧ aopsT S T ops l (nm + 8) r (putSlot sl o.dst (aop S T nm sl o.op H).x) (aop S T nm sl o.op H).H Q

theorem aopsT_sound {P : Program} {w0 : World} {E : Nat → Prop} {T : Types} {S : FSpecs} (hT : TOk P T) (hS : Fns P S) {ops : Array Oper} {K : Exit → Act → World → Prop} {Q : List AV → Heap → Prop} {B : Bs} {nz : Nat}
    (hK : ∀ sl H a w loc, Base w0 B w loc → Rel' w0 E loc ⟨sl, H, nz⟩ a w → Q sl H → K .normal a w) : ∀ (k : List Bool) (r : List Oper) (nm : Nat) (sl : List AV) (H : Heap) (a : Act) (w : World) (loc : Loc), nz = nm + 8 * r.length → Base w0 B w loc →
    Rel' w0 E loc ⟨sl, H, nm⟩ a w → aopsT S T ops.toList k nm r sl H Q → wpList P ops K r a w
  | k, [], nm, sl, H, a, w, loc, hz, hb, hr, h => by
    simp only [List.length_nil, Nat.mul_zero, Nat.add_zero] at hz
    subst hz
    exact wpList_nil (hK sl H a w loc hb hr (by cases k with | nil => exact h | cons b _ => cases b <;> exact h))
  | [], o :: r, nm, sl, H, a, w, loc, hz, hb, hr, h => aops_sound (ops := ops) hT hS hK (o :: r) nm sl H a w loc hz hb hr h
  | true :: l, o :: r, nm, sl, H, a, w, loc, hz, hb, hr, h => by
    have hz' : nz = nm + 8 + 8 * r.length := by simp at hz; omega
    obtain ⟨hg, hp⟩ := h
    refine wpList_step fun Kn hKn => ?_
    rw [if_pos (by simp [Region.wanted, hg])]
    obtain ⟨x, v, w', hrest, hpost, hrun⟩ := specOp_sound (P := P) (nm := nm) hT hr.env hr.heap (fun x => ev_R hr.slots x) hp
    exact (sd_value (w' := w') (loc' := loc) (out := ⟨True, x, H⟩) (hrun o rfl) hpost) Kn K (fun v w' loc' hpost => hKn _ _ (aopsT_sound hT hS hK l r (nm + 8) _ _ _ w' loc' hz' (hb.post hpost) (rel_post hr hpost (fun id b hl => Or.inl (by show look H id ≠ none; intro e; rw [show look H id = some b from hl] at e; cases e)) o.dst) hrest))
  | false :: l, o :: r, nm, sl, H, a, w, loc, hz, hb, hr, h => by
    have hz' : nz = nm + 8 + 8 * r.length := by simp at hz; omega
    obtain ⟨hg, hp, hrest⟩ := h
    refine wpList_step fun Kn hKn => ?_
    rw [if_pos (by simp [Region.wanted, hg])]
    have hop := aop_sound hT hS hr.env hr.heap (fun id h1 _ => hr.fresh id h1) o (fun x _ => ev_R hr.slots x) hp
    exact hop Kn K (fun v w' loc' hpost => hKn _ _ (aopsT_sound hT hS hK l r (nm + 8) _ _ _ w' loc' hz' (hb.post hpost) (rel_post hr hpost (hnew_aop hp) o.dst) hrest))

/-- How a region is told: as ever; with slots frozen ahead of it, and an open call at a place; block by block. -/
inductive RP where
  | std
  | frz (fs : List Nat)
  | opn (fs : List Nat) (k : Nat)
  | prs (l : List (Nat × Nat))
  | tst (k : List Bool)
abbrev XPlan := Nat → RP

def drawsOkO (T : Types) (pl : XPlan) : Code → Bool
  | .region id ops draw => match pl id with
    | .std => !draw || drawOk T ops.toList
    | .frz _ => !draw || drawOk T ops.toList
    | .opn _ _ => !draw
    | .tst _ => !draw
    | .prs p => draw && drawOkF T ops.toList p
  | .seq a b => drawsOkO T pl a && drawsOkO T pl b
  | .cond _ a b => drawsOkO T pl a && drawsOkO T pl b
  | .block _ c => drawsOkO T pl c
  | .loop c => drawsOkO T pl c
  | _ => true

def awpO (S SO : FSpecs) (T : Types) (pl : XPlan) : Code → (Exit → ASt → Prop) → ASt → Prop
  | .skip, Q, σ => Q .normal σ
  | .label _, Q, σ => Q .normal σ
  | .region id ops _, Q, σ => match pl id with
    | .std => aops S T ops.toList σ.nx ops.toList σ.sl σ.H (regK (σ.nx + 8 * ops.toList.length) Q)
    | .prs p => aopsF S T ops.toList p σ.nx [] ops.toList σ.sl σ.H (regK (σ.nx + 8 * ops.toList.length) Q)
    | .frz fs => frzK fs σ.sl σ.H (fun sl H => aops S T ops.toList σ.nx ops.toList sl H (regK (σ.nx + 8 * ops.toList.length) Q))
    | .opn fs k => frzK fs σ.sl σ.H (fun sl H => aopsO S SO T ops.toList k σ.nx ops.toList sl H (regK (σ.nx + 8 * ops.toList.length) Q))
    | .tst k => aopsT S T ops.toList k σ.nx ops.toList σ.sl σ.H (regK (σ.nx + 8 * ops.toList.length) Q)
  | .seq a b, Q, σ => awpO S SO T pl a (seqK (awpO S SO T pl b Q) Q) σ
  | .cond c a b, Q, σ => match ev σ.sl c with
      | .w (.bool t) => csplit t (awpO S SO T pl a Q σ) (awpO S SO T pl b Q σ)
      | _ => False
  | .block id c, Q, σ => awpO S SO T pl c (blockK id Q) σ
  | .loop c, Q, σ => ALoop (awpO S SO T pl c) Q σ
  | .exit id, Q, σ => Q (.exit id) σ
  | .ret, Q, σ => Q .ret σ
  | _, _, _ => False

open Classical in
theorem awpO_sound {P : Program} {w0 : World} {E : Nat → Prop} {T : Types} {S SO : FSpecs} {pl : XPlan} (hm : P.follows .mixedOrders = true) (hT : TOk P T) (hS : Fns P S) (hSO : FnsO P SO) {B : Bs} : ∀ (c : Code) (Q : Exit → ASt → Prop) (σ : ASt) (a : Act) (w : World),
    drawsOkO T pl c = true → awpO S SO T pl c Q σ → Rel w0 E B σ a w → c.wp P (Low w0 E B Q) a w := by
  intro c
  induction c with
  | skip => intro Q σ a w hdr h hr; exact wp_skip ⟨σ, hr, h⟩
  | label l => intro Q σ a w hdr h hr; exact wp_label ⟨σ, hr, h⟩
  | ret => intro Q σ a w hdr h hr; exact wp_ret ⟨σ, hr, h⟩
  | exit id => intro Q σ a w hdr h hr; exact wp_exit ⟨σ, hr, h⟩
  | region id ops draw =>
    intro Q σ a w hdr h hr
    obtain ⟨loc, hb, hr⟩ := hr
    obtain ⟨sl, H, nx⟩ := σ
    have hK : ∀ sl H a w loc, Base w0 B w loc → Rel' w0 E loc ⟨sl, H, nx + 8 * ops.toList.length⟩ a w → regK (nx + 8 * ops.toList.length) Q sl H → Low w0 E B Q .normal a w := fun sl H a w loc h1 h2 h3 => ⟨_, ⟨loc, h1, h2⟩, h3⟩
    simp only [drawsOkO] at hdr
    simp only [awpO] at h
    cases hp : pl id with
    | std =>
      simp only [hp] at hdr h
      cases draw with
      | false => exact wp_region_list (aops_sound hT hS hK ops.toList nx sl H a w loc rfl hb hr h)
      | true => exact draw_sound hT hS hm w0 E ops.toList _ _ B nx sl H a w loc id (by simpa using hdr) hK hb hr h
    | prs p =>
      simp only [hp] at hdr h
      simp only [Bool.and_eq_true] at hdr
      obtain ⟨hd1, hd2⟩ := hdr
      subst hd1
      exact drawF_sound hT hS hm hd2 hK hb hr h
    | frz fs =>
      simp only [hp] at hdr h
      obtain ⟨sl', H', hw, h⟩ := frzK_sound (nx := nx) _ _ _ _ h
      obtain ⟨loc', hb', hr'⟩ := hw _ _ _ _ _ ⟨loc, hb, hr⟩
      cases draw with
      | false => exact wp_region_list (aops_sound hT hS hK ops.toList nx sl' H' a w loc' rfl hb' hr' h)
      | true => exact draw_sound hT hS hm w0 E ops.toList _ _ B nx sl' H' a w loc' id (by simpa using hdr) hK hb' hr' h
    | opn fs k =>
      simp only [hp] at hdr h
      obtain ⟨sl', H', hw, h⟩ := frzK_sound (nx := nx) _ _ _ _ h
      obtain ⟨loc', hb', hr'⟩ := hw _ _ _ _ _ ⟨loc, hb, hr⟩
      cases draw with
      | false => exact wp_region_list (aopsO_sound hT hS hSO hK k ops.toList nx sl' H' a w loc' rfl hb' hr' h)
      | true => simp at hdr
    | tst k =>
      simp only [hp] at hdr h
      cases draw with
      | false => exact wp_region_list (aopsT_sound hT hS hK k ops.toList nx sl H a w loc rfl hb hr h)
      | true => simp at hdr
  | seq x y ihx ihy =>
    intro Q σ a w hdr h hr
    refine wp_seq (wp_mono (ihx _ σ a w (by simp only [drawsOkO, Bool.and_eq_true] at hdr; exact hdr.1) h hr) ?_)
    rintro e a' w' ⟨σ', hr', hq⟩
    cases e with
    | normal => exact ihy Q σ' a' w' (by simp only [drawsOkO, Bool.and_eq_true] at hdr; exact hdr.2) hq hr'
    | _ => exact ⟨σ', hr', hq⟩
  | cond c x y ihx ihy =>
    intro Q σ a w hdr h hr
    simp only [awpO, csplit] at h
    simp only [drawsOkO, Bool.and_eq_true] at hdr
    obtain ⟨loc, hb, hr⟩ := hr
    split at h
    · rename_i t hc
      have hv := ev_R hr.slots c
      rw [hc] at hv
      have hv := hv.wv
      cases t with
      | true => exact wp_cond_true hv (ihx Q σ a w hdr.1 (h.1 rfl) ⟨loc, hb, hr⟩)
      | false => exact wp_cond_false hv (ihy Q σ a w hdr.2 (h.2 rfl) ⟨loc, hb, hr⟩)
    · exact h.elim
  | block id c ih =>
    intro Q σ a w hdr h hr
    refine wp_block (wp_mono (ih _ σ a w hdr h hr) ?_)
    rintro e a' w' ⟨σ', hr', hq⟩
    cases e with
    | exit id' =>
      simp only [blockK, Exit.inBlock] at hq ⊢
      split at hq
      · rename_i he; rw [if_pos he]; exact ⟨σ', hr', hq⟩
      · rename_i he; rw [if_neg he]; exact ⟨σ', hr', hq⟩
    | _ => exact ⟨σ', hr', hq⟩
  | loop c ih =>
    intro Q σ a w hdr h hr
    obtain ⟨I, ⟨n0, σ0, hw0, hI0⟩, hround⟩ := h
    let p : Act → World → Nat → Prop := fun a w n => ∃ σ, Rel w0 E B σ a w ∧ I n σ
    have hleast : ∀ a w, (∃ n, p a w n) → ∃ m, p a w m ∧ ∀ k, p a w k → m ≤ k := fun a w ⟨n, hn⟩ => let ⟨m, h1, _, h3⟩ := least n hn; ⟨m, h1, h3⟩
    let μ : Act → World → Nat := fun a w => if h : ∃ n, p a w n then Classical.choose (hleast a w h) else 0
    refine wp_loop (fun a w => ∃ n, p a w n) μ ⟨n0, σ0, hw0 w0 E B a w hr, hI0⟩ ?_
    intro a w hex
    have hμ : μ a w = Classical.choose (hleast a w hex) := dif_pos hex
    obtain ⟨⟨σ1, hr1, hI1⟩, hmin⟩ := Classical.choose_spec (hleast a w hex)
    rw [← hμ] at hI1
    refine wp_mono (ih _ σ1 a w hdr (hround _ σ1 hI1) hr1) ?_
    rintro e a' w' ⟨σ', hr', hq⟩
    cases e with
    | normal =>
      obtain ⟨m, σ2, hlt, hw2, hI2⟩ := hq
      have hp : p a' w' m := ⟨σ2, hw2 w0 E B a' w' hr', hI2⟩
      refine ⟨⟨m, hp⟩, ?_⟩
      have hμ' : μ a' w' = Classical.choose (hleast a' w' ⟨m, hp⟩) := dif_pos ⟨m, hp⟩
      have := (Classical.choose_spec (hleast a' w' ⟨m, hp⟩)).2 m hp
      rw [← hμ'] at this
      exact Nat.lt_of_le_of_lt this hlt
    | _ =>
      obtain ⟨σ2, hw2, hq⟩ := hq
      exact ⟨σ2, hw2 w0 E B a' w' hr', hq⟩
  | _ => intro Q σ a w hdr h hr; exact h.elim



theorem fn_soundO {P : Program} {T : Types} {S SO : FSpecs} (hm : P.follows .mixedOrders = true) (hT : TOk P T) (hS : Fns P S) (hSO : FnsO P SO) {f : FuncId} {fn : Func} {c : Code} (hf : P.funcs[f]? = some fn) (hb : fn.body = some c) {spec : FSpec}
    (h : ∀ xs pins, (spec xs pins).p → pins.length ≤ 4 ∧ ∃ pl, drawsOkO T pl c = true ∧ awpO S SO T pl c (EndsWO T fn.results.toList pins (spec xs pins)) ⟨xs ++ List.replicate (fn.ntmps - xs.length) .junk, pinHeap 0 pins, 4⟩) : SoundO P f spec :=
  sound_genO hT hf hb (Qp := fun xs pins => EndsWO T fn.results.toList pins (spec xs pins)) (fun _ _ _ _ h => h) (fun xs pins hp => ⟨(h xs pins hp).1, fun w0 E B a w hr => (h xs pins hp).2.elim fun pl hh => awpO_sound hm hT hS hSO c _ _ _ _ hh.1 hh.2 hr⟩)
/-- A function whose calls are such, told as ever. -/
theorem fn_soundOK {P : Program} {T : Types} {S SO : FSpecs} (hm : P.follows .mixedOrders = true) (hT : TOk P T) (hS : Fns P S) (hSO : FnsO P SO) {f : FuncId} {fn : Func} {c : Code} (hf : P.funcs[f]? = some fn) (hb : fn.body = some c) {spec : FSpec}
    (h : ∀ xs pins, (spec xs pins).p → closedB pins = true → pins.length ≤ 4 ∧ ∃ pl, drawsOkO T pl c = true ∧ awpO S SO T pl c (EndsW T fn.results.toList pins (spec xs pins)) ⟨xs ++ List.replicate (fn.ntmps - xs.length) .junk, pinHeap 0 pins, 4⟩) : Sound P f spec :=
  sound_genK (S := S) hT hS hf hb (Qp := fun xs pins => EndsW T fn.results.toList pins (spec xs pins)) (fun _ _ _ _ h => h) (fun xs pins hp hc => ⟨(h xs pins hp hc).1, fun w0 E B a w hr => (h xs pins hp hc).2.elim fun pl hh => awpO_sound hm hT hS hSO c _ _ _ _ hh.1 hh.2 hr⟩)

/-- The same, held back. -/
def laterO (S SO : FSpecs) (T : Types) (pl : XPlan) (b : Code) (Q : Exit → ASt → Prop) : Exit → ASt → Prop := seqK (awpO S SO T pl b Q) Q

section rules
variable {S SO : FSpecs} {T : Types} {pl : XPlan} {Q : Exit → ASt → Prop} {σ : ASt}
theorem awpO_skip : awpO S SO T pl .skip Q σ = Q .normal σ := rfl
theorem awpO_label {l : Nat} : awpO S SO T pl (.label l) Q σ = Q .normal σ := rfl
theorem awpO_ret : awpO S SO T pl .ret Q σ = Q .ret σ := rfl
theorem awpO_exit {id : Nat} : awpO S SO T pl (.exit id) Q σ = Q (.exit id) σ := rfl
theorem awpO_region {id : Nat} {l : List Oper} {draw : Bool} : awpO S SO T pl (.region id l.toArray draw) Q σ = match pl id with
    | .std => aops S T l σ.nx l σ.sl σ.H (regK (σ.nx + 8 * l.length) Q)
    | .prs p => aopsF S T l p σ.nx [] l σ.sl σ.H (regK (σ.nx + 8 * l.length) Q)
    | .frz fs => frzK fs σ.sl σ.H (fun sl H => aops S T l σ.nx l sl H (regK (σ.nx + 8 * l.length) Q))
    | .opn fs k => frzK fs σ.sl σ.H (fun sl H => aopsO S SO T l k σ.nx l sl H (regK (σ.nx + 8 * l.length) Q))
    | .tst k => aopsT S T l k σ.nx l σ.sl σ.H (regK (σ.nx + 8 * l.length) Q) := by
  simp [awpO]
theorem awpO_seq {a b : Code} : awpO S SO T pl (.seq a b) Q σ = awpO S SO T pl a (laterO S SO T pl b Q) σ := rfl
theorem awpO_block {id : Nat} {c : Code} : awpO S SO T pl (.block id c) Q σ = awpO S SO T pl c (blockK id Q) σ := rfl
theorem awpO_cond {c : Operand} {a b : Code} : awpO S SO T pl (.cond c a b) Q σ = match ev σ.sl c with
      | .w (.bool t) => csplit t (awpO S SO T pl a Q σ) (awpO S SO T pl b Q σ)
      | _ => False := rfl
theorem awpO_loopW {c : Code} (h : ALoop (awpO S SO T pl c) Q σ) : awpO S SO T pl (.loop c) Q σ := h
theorem laterO_normal {b : Code} : laterO S SO T pl b Q .normal σ = awpO S SO T pl b Q σ := rfl
theorem laterO_exit {b : Code} {id : Nat} : laterO S SO T pl b Q (.exit id) σ = Q (.exit id) σ := rfl
theorem laterO_ret {b : Code} : laterO S SO T pl b Q .ret σ = Q .ret σ := rfl
variable {ops r : List Oper} {o : Oper} {nm k : Nat} {sl : List AV} {H : Heap} {Q' : List AV → Heap → Prop}
/-- What such a call leaves. -/
def openKO (q : Out) (sl : List AV) (dst : Option Tmp) (K : List AV → Heap → Prop) : Prop := q.p ∧ K (putSlot sl dst q.x) q.H
theorem openKO_def {q : Out} {dst : Option Tmp} {K : List AV → Heap → Prop} : openKO q sl dst K = (q.p ∧ K (putSlot sl dst q.x) q.H) := rfl
theorem aopsO_zero {dst : Option Tmp} {op : Op} {type : TypeId} {pos : String} {after : Array Edge} : aopsO S SO T ops 0 nm (⟨dst, op, type, pos, after, none⟩ :: r) sl H Q' =
    openKO (openOp SO T nm sl op H) sl dst (fun sl' H' => aops S T ops (nm + 8) r sl' H' Q') := by
  simp [aopsO, openKO]
theorem aopsO_succ {dst : Option Tmp} {op : Op} {type : TypeId} {pos : String} {after : Array Edge} : aopsO S SO T ops (k + 1) nm (⟨dst, op, type, pos, after, none⟩ :: r) sl H Q' =
    ((aop S T nm sl op H).p ∧ aopsO S SO T ops k (nm + 8) r (putSlot sl dst (aop S T nm sl op H).x) (aop S T nm sl op H).H Q') := by
  simp [aopsO]
theorem aopsT_nil : aopsT S T ops [] nm r sl H Q' = aops S T ops nm r sl H Q' := by
  cases r <;> rfl
theorem aopsT_done {l : List Bool} : aopsT S T ops l nm [] sl H Q' = Q' sl H := by
  cases l with
  | nil => rfl
  | cons b _ => cases b <;> rfl
theorem aopsT_t {l : List Bool} {dst : Option Tmp} {op : Op} {type : TypeId} {pos : String} {after : Array Edge} : aopsT S T ops (true :: l) nm (⟨dst, op, type, pos, after, none⟩ :: r) sl H Q' =
    (specOp T sl op (fun x => aopsT S T ops l (nm + 8) r (putSlot sl dst x) H Q')) := by
  simp [aopsT]
theorem aopsT_f {l : List Bool} {dst : Option Tmp} {op : Op} {type : TypeId} {pos : String} {after : Array Edge} : aopsT S T ops (false :: l) nm (⟨dst, op, type, pos, after, none⟩ :: r) sl H Q' =
    ((aop S T nm sl op H).p ∧ aopsT S T ops l (nm + 8) r (putSlot sl dst (aop S T nm sl op H).x) (aop S T nm sl op H).H Q') := by
  simp [aopsT]
end rules

end Ax
end Go.Proofs.Ytlbdhkgjhjcgiaa

namespace Go.Proofs.Ytlbdhkgjhjcgiaa
open Ax
/-- One name for all. -/
theorem evTO : (type_of% @awpO_skip) ∧
    (type_of% @awpO_label) ∧
    (type_of% @awpO_ret) ∧
    (type_of% @awpO_exit) ∧
    (type_of% @awpO_region) ∧
    (type_of% @awpO_seq) ∧
    (type_of% @awpO_block) ∧
    (type_of% @awpO_cond) ∧
    (type_of% @laterO_exit) ∧
    (type_of% @laterO_ret) ∧
    (type_of% @aopsO_zero) ∧
    (type_of% @aopsO_succ) ∧
    (type_of% @aopsT_nil) ∧
    (type_of% @aopsT_done) ∧
    (type_of% @aopsT_t) ∧
    (type_of% @aopsT_f) :=
  ⟨@awpO_skip, @awpO_label, @awpO_ret, @awpO_exit, @awpO_region, @awpO_seq, @awpO_block, @awpO_cond, @laterO_exit, @laterO_ret, @aopsO_zero, @aopsO_succ, @aopsT_nil, @aopsT_done, @aopsT_t, @aopsT_f⟩
/-- The evaluator, equation by equation. -/
theorem evDO : (type_of% @Ax.frzS.eq_1) ∧
    (type_of% @Ax.frzL.eq_1) ∧
    (type_of% @Ax.frzL.eq_2) ∧
    (type_of% @Ax.fzL.eq_1) ∧
    (type_of% @Ax.fzL.eq_2) ∧
    (type_of% @Ax.fzH.eq_1) ∧
    (type_of% @Ax.fzH.eq_2) ∧
    (type_of% @Ax.AV.fz.eq_1) ∧
    (type_of% @Ax.AV.fz.eq_2) ∧
    (type_of% @Ax.AV.fz.eq_3) ∧
    (type_of% @Ax.AV.fz.eq_4) ∧
    (type_of% @Ax.AV.fz.eq_5) ∧
    (type_of% @Ax.fgL.eq_1) ∧
    (type_of% @Ax.fgL.eq_2) ∧
    (type_of% @Ax.fgH.eq_1) ∧
    (type_of% @Ax.fgH.eq_2) ∧
    (type_of% @Ax.AV.fg.eq_1) ∧
    (type_of% @Ax.AV.fg.eq_2) ∧
    (type_of% @Ax.AV.fg.eq_3) ∧
    (type_of% @Ax.AV.fg.eq_4) ∧
    (type_of% @Ax.AV.fg.eq_5) ∧
    (type_of% @Ax.aOpen.eq_1) ∧
    (type_of% @Ax.openOut.eq_1) ∧
    (type_of% @Ax.reach.eq_1) ∧
    (type_of% @Ax.reach.eq_2) ∧
    (type_of% @Ax.reach.eq_3) ∧
    (type_of% @Ax.walk.eq_1) ∧
    (type_of% @Ax.walk.eq_2) ∧
    (type_of% @Ax.allIn.eq_1) ∧
    (type_of% @Ax.allIn.eq_2) ∧
    (type_of% @Ax.pinsIn.eq_1) ∧
    (type_of% @Ax.pinsIn.eq_2) ∧
    (type_of% @Ax.pinsR.eq_1) ∧
    (type_of% @Ax.pinsR.eq_2) ∧
    (type_of% @Ax.backO.eq_1) ∧
    (type_of% @Ax.backO.eq_2) ∧
    (type_of% @Ax.gone.eq_1) ∧
    (type_of% @Ax.AV.sids.eq_1) ∧
    (type_of% @Ax.AV.sids.eq_2) ∧
    (type_of% @Ax.AV.sids.eq_3) ∧
    (type_of% @Ax.AV.sids.eq_4) ∧
    (type_of% @Ax.AV.sids.eq_5) ∧
    (type_of% @Ax.AV.sids.eq_6) ∧
    (type_of% @Ax.sidsL.eq_1) ∧
    (type_of% @Ax.sidsL.eq_2) ∧
    (type_of% @Ax.Blk.renB.eq_1) ∧
    (type_of% @Ax.idxOf.eq_1) ∧
    (type_of% @Ax.EndsXO.eq_1) ∧
    (type_of% @Ax.endIds.eq_1) ∧
    (type_of% @Ax.reachE.eq_1) ∧
    (type_of% @Ax.reachE.eq_2) ∧
    (type_of% @Ax.reachE.eq_3) ∧
    (type_of% @Ax.idsAt.eq_1) ∧
    (type_of% @Ax.idsAtL.eq_1) ∧
    (type_of% @Ax.idsAtL.eq_2) ∧
    (type_of% @Ax.walkI.eq_1) ∧
    (type_of% @Ax.walkI.eq_2) ∧
    (type_of% @Ax.matchE.eq_1) ∧
    (type_of% @Ax.matchE.eq_2) ∧
    (type_of% @Ax.matchE.eq_3) ∧
    (type_of% @Ax.aopF.eq_1) ∧
    (type_of% @Ax.foot.eq_1) ∧
    (type_of% @Ax.footA.eq_1) ∧
    (type_of% @Ax.keepIn.eq_1) ∧
    (type_of% @Ax.keepIn.eq_2) ∧
    (type_of% @Ax.dropIn.eq_1) ∧
    (type_of% @Ax.dropIn.eq_2) ∧
    (type_of% @Ax.bids.eq_1) ∧
    (type_of% @Ax.bids.eq_2) ∧
    (type_of% @Ax.heldB.eq_1) ∧
    (type_of% @Ax.memOk.eq_1) ∧
    (type_of% @Ax.clearOf.eq_1) :=
  ⟨@Ax.frzS.eq_1, @Ax.frzL.eq_1, @Ax.frzL.eq_2, @Ax.fzL.eq_1, @Ax.fzL.eq_2, @Ax.fzH.eq_1, @Ax.fzH.eq_2, @Ax.AV.fz.eq_1, @Ax.AV.fz.eq_2, @Ax.AV.fz.eq_3, @Ax.AV.fz.eq_4, @Ax.AV.fz.eq_5, @Ax.fgL.eq_1, @Ax.fgL.eq_2, @Ax.fgH.eq_1, @Ax.fgH.eq_2, @Ax.AV.fg.eq_1, @Ax.AV.fg.eq_2, @Ax.AV.fg.eq_3, @Ax.AV.fg.eq_4, @Ax.AV.fg.eq_5, @Ax.aOpen.eq_1, @Ax.openOut.eq_1, @Ax.reach.eq_1, @Ax.reach.eq_2, @Ax.reach.eq_3, @Ax.walk.eq_1, @Ax.walk.eq_2, @Ax.allIn.eq_1, @Ax.allIn.eq_2, @Ax.pinsIn.eq_1, @Ax.pinsIn.eq_2, @Ax.pinsR.eq_1, @Ax.pinsR.eq_2, @Ax.backO.eq_1, @Ax.backO.eq_2, @Ax.gone.eq_1, @Ax.AV.sids.eq_1, @Ax.AV.sids.eq_2, @Ax.AV.sids.eq_3, @Ax.AV.sids.eq_4, @Ax.AV.sids.eq_5, @Ax.AV.sids.eq_6, @Ax.sidsL.eq_1, @Ax.sidsL.eq_2, @Ax.Blk.renB.eq_1, @Ax.idxOf.eq_1, @Ax.EndsXO.eq_1, @Ax.endIds.eq_1, @Ax.reachE.eq_1, @Ax.reachE.eq_2, @Ax.reachE.eq_3, @Ax.idsAt.eq_1, @Ax.idsAtL.eq_1, @Ax.idsAtL.eq_2, @Ax.walkI.eq_1, @Ax.walkI.eq_2, @Ax.matchE.eq_1, @Ax.matchE.eq_2, @Ax.matchE.eq_3, @Ax.aopF.eq_1, @Ax.foot.eq_1, @Ax.footA.eq_1, @Ax.keepIn.eq_1, @Ax.keepIn.eq_2, @Ax.dropIn.eq_1, @Ax.dropIn.eq_2, @Ax.bids.eq_1, @Ax.bids.eq_2, @Ax.heldB.eq_1, @Ax.memOk.eq_1, @Ax.clearOf.eq_1⟩
end Go.Proofs.Ytlbdhkgjhjcgiaa
