/- What the proofs of this seat stand on; it asks nothing. -/
import Derived.Test.YtebacgkeoefnkaaZa08
set_option linter.unusedSimpArgs false
set_option linter.unusedVariables false
namespace Go.Proofs.Ytebacgkeoefnkaa
namespace Ax
open Go.RowKit
def FnsO (P : Program) (S : zah) : Prop := ∀ f s,S f = some s → zrv P f ∧ zol P f s
def noO : zah := fun _ => none
theorem ysh {P : Program} : FnsO P noO := fun f s h => by cases h
def zcn (SO : zah) (T : zab) (nm : Nat) (sl : List AV) (op : Op) (H : Heap) : Out :=
 match op with
 | .call c => match c.callee with
  | .value f => match ev sl f with
   | .fn f caps => aOpen SO nm f (coes T c.argTypes.toList (evs sl c.args.toList) ++ caps) H
   | _ => bad
  | _ => bad
 | _ => bad
theorem yhj {P : Program} {w0 : World} {E : Nat → Prop} {w : World} {loc : Loc} {H : Heap} {T : zab} {SO : zah} (hS : FnsO P SO) (he : Env w0 E w loc) (hh : HR w loc H) {nm : Nat} (hfree : ∀ id,nm ≤ id → id < nm + 8 → loc.m id = .free) {sl : List AV} {a : Act} (o : Oper)
  (hev : ∀ x,R w loc (ev sl x) (a.eval x)) (hp : (zcn SO T nm sl o.op H).p) : Sd P w0 E w loc true nm (zcn SO T nm sl o.op H) o a := by
 cases ho : o.op with
 | call c =>
  obtain ⟨callee,args,argTypes⟩ := c
  cases callee with
  | value f =>
   have hfv := hev f
   simp only [zcn,ho] at hp ⊢
   generalize ev sl f = xf at hfv hp ⊢
   split at hp
   ·rename_i g caps
    cases hv : a.eval f with
    | func fn first captured =>
     rw [hv] at hfv
     cases hfv with
     | fn _ _ cs hlc hc =>
      obtain ⟨e1,e2⟩ := zyy (w := w) (loc := loc) (sl := sl) (a := a) args.toList (fun x _ => hev x)
      obtain ⟨c1,c2⟩ := zzb (T := T) (w := w) (loc := loc) argTypes.toList (evs sl args.toList)
      have c2 := c2 (args.toList.map a.eval) e2
      have c3 : ∀ (j : Nat) (h : j < (coes T argTypes.toList (evs sl args.toList) ++ caps).length) (h' : j < (args.toList.map a.eval ++ cs).length),R w loc (coes T argTypes.toList (evs sl args.toList) ++ caps)[j] (args.toList.map a.eval ++ cs)[j] := by
       intro j h h'
       have hl : (coes T argTypes.toList (evs sl args.toList)).length = (args.toList.map a.eval).length := by rw [c1,e1]; simp
       by_cases hj : j < (coes T argTypes.toList (evs sl args.toList)).length
       ·rw [List.getElem_append_left hj,List.getElem_append_left (by omega)]
        exact c2 j hj (by omega)
       ·rw [List.getElem_append_right (by omega),List.getElem_append_right (by omega)]
        have := hc (j - (coes T argTypes.toList (evs sl args.toList)).length) (by rw [List.length_append] at h; omega) (by rw [List.length_append] at h'; omega)
        simpa only [hl] using this
      cases hsg : SO g with
      | none => simp [aOpen,hsg,bad] at hp
      | some sp =>
       obtain ⟨⟨fn,hfn,hbody,hname⟩,hsound⟩ := hS g sp hsg
       have hcall := ztt (P := P) he hh hfree (SO := SO) (fun f s h => (hS f s h).2) (f := g) (by rw [List.length_append,List.length_append,c1,e1,hlc]; simp) c3 hp
       have hrun : (execOp a.eval o).run P w = .ok (.enter g (args.toList.map a.eval ++ cs).toArray) w := by
        have h1 : fn.name ≠ "runtime.NumGoroutine" := by simpa using hname
        have hb' : fn.body ≠ none := by intro e; rw [e] at hbody; simp at hbody
        have h9 : Array.map a.eval args = (args.toList.map a.eval).toArray := by rw [← Array.toList_inj]; simp
        simp [execOp,ho,resolve,hv,Deferred.ofValue,invoke,callFunc,hfn,h1,hb',h9]
       intro next Q hn
       unfold Oper.wp
       rw [hrun]
       refine hcall.mono ?_
       rintro e w' ⟨v,loc',rfl,h1⟩
       exact hn v w' loc' h1
    | _ => rw [hv] at hfv; cases hfv
   ·exact hp.elim
  | _ => simp [zcn,ho,bad] at hp
 | _ => simp [zcn,ho,bad] at hp
theorem zwj {H : Heap} : ∀ (ids good : List Nat),walk H good ids = true → ∀ id ∈ ids,look H id ≠ none
 | [],_,_,id,hid => by simp at hid
 | k :: r,good,hw,id,hid => by
  simp only [walk,Bool.and_eq_true] at hw
  cases hl : look H k with
  | none => simp [hl] at hw
  | some blk =>
   simp only [hl] at hw
   rcases List.mem_cons.1 hid with rfl | hid
   ·rw [hl]; simp
   ·exact zwj r _ hw.2 id hid
theorem zye {SO : zah} {T : zab} {sl : List AV} {op : Op} {nm : Nat} {H : Heap} : Hnew nm H (zcn SO T nm sl op H) := by
 unfold zcn
 split
 ·split
  ·split
   ·unfold aOpen
    split
    ·rename_i f _ spec hs
     intro hp id b hl
     simp only [openOut] at hp hl
     generalize reach H 12 [] (idsL _) = ids at *
     obtain ⟨⟨hnd,hwalk,hain,hpin⟩,hsp,hb1,hb2⟩ := hp
     rcases zno _ _ _ hl with ⟨j,hj,h1,h2⟩ | ⟨h1,h2⟩
     ·rw [Nat.zero_add] at h1
      by_cases hjl : j < ids.length
      ·rw [zes hjl] at h1
       left
       rw [← h1]
       exact zwj ids _ hwalk _ (List.getElem_mem hjl)
      ·rw [zdy (by omega)] at h1
       right; omega
     ·exact .inl (by rw [h1]; simp)
    ·exact hok_bad.new
   ·exact hok_bad.new
  ·exact hok_bad.new
 ·exact hok_bad.new
def zjf (S SO : zah) (T : zab) (ops : List Oper) : Nat → Nat → List Oper → List AV → Heap → (List AV → Heap → Prop) → Prop
 | _,_,[],sl,H,Q => Q sl H
 | 0,nm,o :: r,sl,H,Q => o.guard = none ∧ (zcn SO T nm sl o.op H).p ∧ aops S T ops (nm + 8) r (zal sl o.dst (zcn SO T nm sl o.op H).x) (zcn SO T nm sl o.op H).H Q
 | k + 1,nm,o :: r,sl,H,Q => o.guard = none ∧ (aop S T nm sl o.op H).p ∧ zjf S SO T ops k (nm + 8) r (zal sl o.dst (aop S T nm sl o.op H).x) (aop S T nm sl o.op H).H Q
theorem zfw {P : Program} {w0 : World} {E : Nat → Prop} {T : zab} {S SO : zah} (hT : TOk P T) (hS : Fns P S) (hSO : FnsO P SO) {ops : Array Oper} {K : Exit → Act → World → Prop} {Q : List AV → Heap → Prop} {B : Bs} {nz : Nat}
  (hK : ∀ sl H a w loc,Base w0 B w loc → Rel' w0 E loc ⟨sl,H,nz⟩ a w → Q sl H → K .normal a w) : ∀ (k : Nat) (r : List Oper) (nm : Nat) (sl : List AV) (H : Heap) (a : Act) (w : World) (loc : Loc),nz = nm + 8 * r.length → Base w0 B w loc →
  Rel' w0 E loc ⟨sl,H,nm⟩ a w → zjf S SO T ops.toList k nm r sl H Q → wpList P ops K r a w
 | k,[],nm,sl,H,a,w,loc,hz,hb,hr,h => by
  simp only [List.length_nil,Nat.mul_zero,Nat.add_zero] at hz
  subst hz
  exact wpList_nil (hK sl H a w loc hb hr (by cases k <;> exact h))
 | 0,o :: r,nm,sl,H,a,w,loc,hz,hb,hr,h => by
  have hz' : nz = nm + 8 + 8 * r.length := by simp at hz; omega
  obtain ⟨hg,hp,hrest⟩ := h
  refine wpList_step fun Kn hKn => ?_
  rw [if_pos (by simp [Region.wanted,hg])]
  have hop := yhj (T := T) hSO hr.env hr.heap (fun id h1 _ => hr.fresh id h1) o (fun x => ev_R hr.slots x) hp
  exact hop Kn K (fun v w' loc' hpost => hKn _ _ (zdd (ops := ops) hT hS hK r (nm + 8) _ _ _ w' loc' hz' (hb.post hpost) (zgf hr hpost (zye hp) o.dst) hrest))
 | k + 1,o :: r,nm,sl,H,a,w,loc,hz,hb,hr,h => by
  have hz' : nz = nm + 8 + 8 * r.length := by simp at hz; omega
  obtain ⟨hg,hp,hrest⟩ := h
  refine wpList_step fun Kn hKn => ?_
  rw [if_pos (by simp [Region.wanted,hg])]
  have hop := zce hT hS hr.env hr.heap (fun id h1 _ => hr.fresh id h1) o (fun x _ => ev_R hr.slots x) hp
  exact hop Kn K (fun v w' loc' hpost => hKn _ _ (zfw hT hS hSO hK k r (nm + 8) _ _ _ w' loc' hz' (hb.post hpost) (zgf hr hpost (zew hp) o.dst) hrest))
def zjy (T : zab) (sl : List AV) (op : Op) (K : AV → Prop) : Prop :=
 match op with
 | .binOp .eql t x (.const (.slice none 0 0)) _ => match T t with
  | some ti => match ti.d with
   | .slice _ => match ev sl x with
    | .sg s xs _ => 0 < s ∧ ∀ b,(b = true → xs.length = 0) → K (.w (.bool b))
    | .sb xs _ => ∀ b,(b = true → xs.length = 0) → K (.w (.bool b))
    | .si xs _ => ∀ b,(b = true → xs.length = 0) → K (.w (.bool b))
    | _ => False
   | _ => False
  | none => False
 | .buildSlice t 0 ps => match T t with
  | some ti => match ti.d with
   | .slice e => match T e with
    | some te => ps = #[] ∧ 0 < te.size ∧ K (.sg te.size [] true)
    | none => False
   | _ => False
  | none => False
 | .call c => match c.callee with
  | .builtin .append => match c.args.toList,c.argTypes.toList with
   | [x,y],[t,u] => match T t,T u with
    | some ti,some tu => match ti.d,tu.d with
     | .slice e,.slice _ => match T e with
      | some te => match ev sl x,ev sl y with
       | .sg s [] true,.sg _ [] _ => 0 < te.size ∧ K (.sg s [] true)
       | .sg s [] true,.sb [] _ => 0 < te.size ∧ K (.sg s [] true)
       | .sg s [] true,.si [] _ => 0 < te.size ∧ K (.sg s [] true)
       | _,_ => False
      | none => False
     | _,_ => False
    | _,_ => False
   | _,_ => False
  | _ => False
 | _ => False
theorem zll {P : Program} {t u ty e e' : TypeId} {te : TyI} (hd : P.underlying t = some (.slice e)) (hu : P.underlying u = some (.slice e')) (hty : TyR P e te) (a a' : Option Addr) (c : Nat) (w : World) :
  (Builtin.append_ #[t,u] ty #[.slice a 0 0,.slice a' 0 c]).run P w = .ok (.slice a 0 0) w := by
 have hsz := fun W => zaq (P := P) hty W
 have hlc : ∀ (b : Addr) W,(loadCells b 0).run P W = .ok #[] W := fun b W => by simp [loadCells,loadCellsFrom]
 have hst : ∀ (b : Addr) W,(storeCells b []).run P W = .ok () W := fun b W => by simp [storeCells]
 unfold Builtin.append_
 cases a <;> cases a' <;> simp [run_underlying hd,run_underlying hu,hsz,Builtin.lenOf,Builtin.firstCells,hlc,hst]
theorem zwm {P : Program} {w0 : World} {E : Nat → Prop} {T : zab} (hT : TOk P T) {w : World} {loc : Loc} {H : Heap} (he : Env w0 E w loc) (hh : HR w loc H) {nm : Nat} {sl : List AV} {a : Act} {op : Op} {K : AV → Prop} (hev : ∀ x,R w loc (ev sl x) (a.eval x)) (h : zjy T sl op K) :
  ∃ x v w',K x ∧ Post w0 E w loc true nm x H v w' loc ∧ ∀ o : Oper,o.op = op → (execOp a.eval o).run P w = .ok (.value v) w' := by
 unfold zjy at h
 split at h
 ·rename_i t x yt
  cases ht : T t with
  | none => simp [ht] at h
  | some ti =>
   simp only [ht] at h
   split at h
   ·rename_i e hd
    have hu : ∃ e,P.underlying t = some (.slice e) := by
     have := (hT t ti ht).d
     rw [hd] at this
     exact ⟨_,this⟩
    obtain ⟨e,hu⟩ := hu
    have hx := hev x
    generalize ev sl x = xv at hx h
    split at h
    ·rename_i s xs f
     obtain ⟨hs,h⟩ := h
     generalize hv : a.eval x = v at hx
     cases hx with
     | sg _ _ _ ad cap cs hd hs' hc hl hx' _ =>
      refine ⟨_,.bool ad.isNone,w,h ad.isNone fun hn => ?_,Post.pure (.w _ rfl) hh he,fun o ho => ?_⟩
      ·cases xs with
       | nil => rfl
       | cons y ys =>
        exfalso
        obtain rfl : ad = none := by simpa using hn
        rcases hc.lies with rfl | ⟨b,o,he,_⟩
        ·have := hs' y (by simp)
         rw [List.flatMap_cons,List.length_append,List.length_nil] at hl
         omega
        ·cases he
      ·have heq : ∀ d,(Op.equalIn (d + 1) t (.slice ad xs.length cap) (.slice none 0 0)).run P w = .ok ad.isNone w := fun d => by cases ad <;> simp [Op.equalIn,run_underlying hu]
       have heq := heq 9999
       have h2 : (Op.equal t (.slice ad xs.length cap) (.slice none 0 0)).run P w = .ok ad.isNone w := heq
       simp only [execOp,ho,hv]
       simp [zbv (u := .slice ad xs.length cap) rfl (by simp),binOp,h2,Act.eval]
    ·rename_i xs f
     generalize hv : a.eval x = v at hx
     cases hx with
     | sb _ _ ad cap hd hc =>
      refine ⟨_,.bool ad.isNone,w,h ad.isNone fun hn => ?_,Post.pure (.w _ rfl) hh he,fun o ho => ?_⟩
      ·cases xs with
       | nil => rfl
       | cons y ys =>
        exfalso
        obtain rfl : ad = none := by simpa using hn
        rcases hc.lies with hcs | ⟨b,o,he,_⟩
        ·simp at hcs
        ·cases he
      ·have heq : ∀ d,(Op.equalIn (d + 1) t (.slice ad xs.length cap) (.slice none 0 0)).run P w = .ok ad.isNone w := fun d => by cases ad <;> simp [Op.equalIn,run_underlying hu]
       have heq := heq 9999
       have h2 : (Op.equal t (.slice ad xs.length cap) (.slice none 0 0)).run P w = .ok ad.isNone w := heq
       simp only [execOp,ho,hv]
       simp [zbv (u := .slice ad xs.length cap) rfl (by simp),binOp,h2,Act.eval]
    ·rename_i xs f
     generalize hv : a.eval x = v at hx
     cases hx with
     | si _ _ ad cap hd hc =>
      refine ⟨_,.bool ad.isNone,w,h ad.isNone fun hn => ?_,Post.pure (.w _ rfl) hh he,fun o ho => ?_⟩
      ·cases xs with
       | nil => rfl
       | cons y ys =>
        exfalso
        obtain rfl : ad = none := by simpa using hn
        rcases hc.lies with hcs | ⟨b,o,he,_⟩
        ·simp at hcs
        ·cases he
      ·have heq : ∀ d,(Op.equalIn (d + 1) t (.slice ad xs.length cap) (.slice none 0 0)).run P w = .ok ad.isNone w := fun d => by cases ad <;> simp [Op.equalIn,run_underlying hu]
       have heq := heq 9999
       have h2 : (Op.equal t (.slice ad xs.length cap) (.slice none 0 0)).run P w = .ok ad.isNone w := heq
       simp only [execOp,ho,hv]
       simp [zbv (u := .slice ad xs.length cap) rfl (by simp),binOp,h2,Act.eval]
    ·exact h.elim
   ·exact h.elim
 ·rename_i t ps
  cases ht : T t with
  | none => simp [ht] at h
  | some ti =>
   simp only [ht] at h
   split at h
   ·rename_i e hd
    have hu : P.underlying t = some (.slice e) := by
     have := (hT t ti ht).d
     rw [hd] at this
     exact this
    cases hte : T e with
    | none => simp [hte] at h
    | some te =>
     simp only [hte] at h
     obtain ⟨rfl,hs,hK⟩ := h
     have hty := hT _ te hte
     obtain ⟨z,z1,z2,z3⟩ := zbe hty w
     have hrun := zdg (P := P) (t := t) (n := 0) (pv := #[]) (cs := #[]) hu hty z1 hs (by omega) (by simp [Instr.fill])
     refine ⟨_,.slice (some ⟨w.heap.size,0,none⟩) 0 0,{ w with heap := w.heap.push (.cells #[] e) },hK,yke (o := .cells #[] e) he hh ⟨rfl,rfl,rfl,rfl⟩ (fun _ => .sg _ [] true _ 0 [] ⟨Nat.le_refl _,Nat.zero_le _,fun _ => rfl⟩ (by simp) ⟨.inl rfl⟩ rfl (by simp) (by simp)),fun o ho => ?_⟩
     simp [execOp,ho,hrun]
   ·exact h.elim
 ·rename_i c
  obtain ⟨callee,args,argTypes⟩ := c
  simp only at h
  split at h
  ·split at h
   ·rename_i d x t u ha hb
    cases ht : T t with
    | none => simp [ht] at h
    | some ti =>
     cases htu : T u with
     | none => simp [ht,htu] at h
     | some tu =>
      simp only [ht,htu] at h
      have hd := (hT t ti ht).d
      have hud := (hT u tu htu).d
      split at h
      ·rename_i e e' hdd hdu
       rw [hdd] at hd
       rw [hdu] at hud
       have hd : P.underlying t = some (.slice e) := hd
       have hud : P.underlying u = some (.slice e') := hud
       cases hte : T e with
       | none => simp [hte] at h
       | some te =>
        simp only [hte] at h
        have hty := hT _ te hte
        have hdv := hev d
        have hxv := hev x
        generalize ev sl d = dv at hdv h
        generalize ev sl x = xv at hxv h
        split at h
        ·rename_i s s' f'
         obtain ⟨hs,hK⟩ := h
         obtain rfl : args = #[d,x] := by rw [← Array.toList_inj]; exact ha
         obtain rfl : argTypes = #[t,u] := by rw [← Array.toList_inj]; exact hb
         generalize hv1 : a.eval d = v1 at hdv
         generalize hv2 : a.eval x = v2 at hxv
         cases hdv with
         | sg _ _ _ ad cap cs hdm hs' hc hl hx' hh' =>
          obtain rfl : cap = 0 := hdm.full rfl
          cases hxv with
          | sg _ _ _ ad2 cap2 cs2 hdm2 hs2 hc2 hl2 hx2 hh2 =>
           refine ⟨_,.slice ad 0 0,w,hK,Post.pure (.sg _ [] true ad 0 cs hdm hs' hc hl hx' hh') hh he,fun o ho => ?_⟩
           have h1 := zll (P := P) (ty := o.type) hd hud hty ad ad2 cap2 w
           simp only [execOp,ho,resolve,invoke,builtin,Sem.run_bind,Sem.run_pure,Result.andThen_ok]
           simp [hv1,hv2,h1]
        ·rename_i s f'
         obtain ⟨hs,hK⟩ := h
         obtain rfl : args = #[d,x] := by rw [← Array.toList_inj]; exact ha
         obtain rfl : argTypes = #[t,u] := by rw [← Array.toList_inj]; exact hb
         generalize hv1 : a.eval d = v1 at hdv
         generalize hv2 : a.eval x = v2 at hxv
         cases hdv with
         | sg _ _ _ ad cap cs hdm hs' hc hl hx' hh' =>
          obtain rfl : cap = 0 := hdm.full rfl
          cases hxv with
          | sb _ _ ad2 cap2 hdm2 hc2 =>
           refine ⟨_,.slice ad 0 0,w,hK,Post.pure (.sg _ [] true ad 0 cs hdm hs' hc hl hx' hh') hh he,fun o ho => ?_⟩
           have h1 := zll (P := P) (ty := o.type) hd hud hty ad ad2 cap2 w
           simp only [execOp,ho,resolve,invoke,builtin,Sem.run_bind,Sem.run_pure,Result.andThen_ok]
           simp [hv1,hv2,h1]
        ·rename_i s f'
         obtain ⟨hs,hK⟩ := h
         obtain rfl : args = #[d,x] := by rw [← Array.toList_inj]; exact ha
         obtain rfl : argTypes = #[t,u] := by rw [← Array.toList_inj]; exact hb
         generalize hv1 : a.eval d = v1 at hdv
         generalize hv2 : a.eval x = v2 at hxv
         cases hdv with
         | sg _ _ _ ad cap cs hdm hs' hc hl hx' hh' =>
          obtain rfl : cap = 0 := hdm.full rfl
          cases hxv with
          | si _ _ ad2 cap2 hdm2 hc2 =>
           refine ⟨_,.slice ad 0 0,w,hK,Post.pure (.sg _ [] true ad 0 cs hdm hs' hc hl hx' hh') hh he,fun o ho => ?_⟩
           have h1 := zll (P := P) (ty := o.type) hd hud hty ad ad2 cap2 w
           simp only [execOp,ho,resolve,invoke,builtin,Sem.run_bind,Sem.run_pure,Result.andThen_ok]
           simp [hv1,hv2,h1]
        ·exact h.elim
      ·exact h.elim
   ·exact h.elim
  ·exact h.elim
 ·exact h.elim
theorem znm {α β : Type} (f : α → β) : ∀ (l : List α) (j : Nat),(l.eraseIdx j).map f = (l.map f).eraseIdx j
 | [],j => by simp
 | x :: r,0 => by simp
 | x :: r,j + 1 => by simp [znm f r j]
theorem zoh {α β : Type} [BEq β] [LawfulBEq β] (f : α → β) : ∀ (l : List α) (j : Nat) (hj : j < l.length),(l.map f).Nodup → (l.filter fun x => !(f x == f l[j])) = l.eraseIdx j
 | [],j,hj,_ => by simp at hj
 | x :: r,0,hj,hn => by
  rw [List.map_cons,List.nodup_cons] at hn
  have h1 : ((fun y => !(f y == f (x :: r)[0])) : α → Bool) x = false := by simp
  rw [List.filter_cons_of_neg (by simp),List.eraseIdx_cons_zero]
  refine List.filter_eq_self.2 fun y hy => ?_
  have : f y ≠ f x := fun e => hn.1 (e ▸ List.mem_map_of_mem hy)
  simpa using this
 | x :: r,j + 1,hj,hn => by
  rw [List.map_cons,List.nodup_cons] at hn
  have hj' : j < r.length := by simpa using hj
  have hne : f x ≠ f r[j] := fun e => hn.1 (e ▸ List.mem_map_of_mem (List.getElem_mem hj'))
  simp only [List.getElem_cons_succ,List.eraseIdx_cons_succ]
  rw [List.filter_cons_of_pos (by simpa using hne),zoh f r j hj' hn.2]
def zlw (x : AV) (H : Heap) (K : AV → Heap → Prop) : Prop :=
 match x with
 | .rf id s i f => match look H id with
  | some (.o (.mi es _)) => ((i = 0 ∧ f = 0) ∧ s ≠ 0) ∧ (es = [] → K (.tup [.w (.bool false)]) H) ∧ ∀ (j : Nat) (h : j < es.length),K (.tup [.w (.bool true),es[j].1,es[j].2]) (put H id (.o (.mi (es.eraseIdx j) (some es[j]))))
  | _ => False
 | _ => False
theorem zry {P : Program} {w0 : World} {E : Nat → Prop} {w : World} {loc : Loc} {H : Heap} (he : Env w0 E w loc) (hh : HR w loc H) {nm : Nat} {ty : TypeId} {x : AV} {v : Value} {K : AV → Heap → Prop} (hx : R w loc x v) (h : zlw x H K) :
  ∃ y H' u w',K y H' ∧ Post w0 E w loc true nm y H' u w' loc ∧ (∀ id b,look H' id = some b → look H id ≠ none) ∧ (Instr.next v false ty).run P w = .ok u w' := by
 unfold zlw at h
 split at h
 ·rename_i id s i f
  split at h
  ·rename_i es now hl
   obtain ⟨⟨⟨rfl,rfl⟩,hs⟩,hz,hK⟩ := h
   cases hx with
   | rf _ _ _ _ _ h =>
    obtain ⟨c,hc,rfl,m,ms,clk,seen,h1,h2,h3,h4⟩ := zey hh h hl
    rw [zay hs,show 0 * s + 0 = 0 from by simp]
    have g1 := zcb (P := P) h1
    have g2 := zcb (P := P) h2
    have hLl : (ms.filter fun e => !seen.contains e.born).toList = ms.toList.filter fun e => !seen.contains e.born := by rw [Array.toList_filter]
    have hlen : (ms.filter fun e => !seen.contains e.born).size = es.length := by
     have := congrArg List.length h4.kv
     rw [List.length_map,List.length_map] at this
     rw [← this,← hLl]; rfl
    generalize hL : (ms.filter fun e => !seen.contains e.born) = L at hLl hlen
    have hLm : ∀ e ∈ L,e ∈ ms.toList := fun e he => by
     have : e ∈ L.toList := by simpa using he
     rw [hLl] at this
     exact (List.mem_filter.1 this).1
    have hold : L.filter (fun e => decide (e.born < clk)) = L := by
     rw [← Array.toList_inj,Array.toList_filter]
     exact List.filter_eq_self.2 fun e he => by simpa using h4.old e (hLm e (by simpa using he))
    have hnew : L.filter (fun e => decide (e.born ≥ clk)) = #[] := by
     rw [← Array.toList_inj,Array.toList_filter]
     refine List.filter_eq_nil_iff.2 fun e he => ?_
     have := h4.old e (hLm e (by simpa using he))
     simp; omega
    by_cases h0 : es.length = 0
    ·have he0 : es = [] := List.eq_nil_of_length_eq_zero h0
     have hL0 : L = #[] := by rw [h0] at hlen; exact Array.eq_empty_of_size_eq_zero hlen
     refine ⟨_,H,.tuple #[.bool false],w,hz he0,Post.pure ?_ hh he,fun id b hb => by rw [hb]; simp,?_⟩
     ·exact .tup [.w (.bool false)] [.bool false] rfl (fun j h5 h6 => by
       have : j = 0 := by simp at h5; omega
       subst this; exact .w _ rfl)
     ·simp only [Instr.next,Sem.run_bind,g1,g2,Result.andThen_ok,next_test_false seen ms clk clk h4.old (Nat.le_refl _),Bool.false_eq_true,if_false,hL,hL0]
      simp [choose,Sem.run,Question.forced]
    ·obtain ⟨j,w1,hj,hw1,hch⟩ : ∃ j w1,j < L.size ∧ (w1 = w ∨ w1 = { w with drawn := w.drawn + 1 }) ∧ (choose (.mapNext L.size)).run P w = .ok j w1 := by
      by_cases hn : L.size ≤ 1
      ·exact ⟨0,w,by omega,.inl rfl,by simp [choose,Sem.run,Question.forced,hn]⟩
      ·refine ⟨(Question.mapNext L.size).cut (w.tape w.drawn (.mapNext L.size)),{ w with drawn := w.drawn + 1 },?_,.inr rfl,by simp [choose,Sem.run,Question.forced,hn]⟩
       simp only [Question.cut]
       exact Nat.mod_lt _ (by omega)
     have hje : j < es.length := by omega
     have hjt : j < (ms.toList.filter fun e => !seen.contains e.born).length := by rw [← hLl]; simpa using hj
     have hke : kvOf L[j] = pp es[j] := by
      have e1 : (ms.toList.filter fun e => !seen.contains e.born)[j]'hjt = L[j] := by simp only [← hLl]; simp
      have e2 := congrArg (fun l : List (Value × Value) => l[j]?) h4.kv
      simp only [List.getElem?_map] at e2
      rw [List.getElem?_eq_getElem hjt,List.getElem?_eq_getElem hje,e1] at e2
      simpa using e2
     generalize hee : L[j] = e at hke
     have hem : e ∈ ms.toList := hLm e (by rw [← hee]; simp)
     have heb := h4.old e hem
     have hcm : m ≠ c := by rintro rfl; exact h3 (.inr ⟨id,hc⟩)
     have hE : Ext (fun _ => False) w loc w1 loc := by rcases hw1 with rfl | rfl <;> exact ⟨Nat.le_refl _,fun _ _ _ => rfl,fun _ _ _ => .inl rfl,fun _ _ h => ⟨rfl,h⟩,fun _ _ _ _ => rfl,fun _ cur _ fz h => ⟨cur,fz,h,rfl⟩⟩
     have hh1 : HR w1 loc H := fun k b hb => by
      by_cases hf : loc.m k = .free
      ·exact BlkR.free hf
      ·exact (hh k b hb).ext hE (fun h => h) hf
     have he1 : Env w0 E w1 loc := by rcases hw1 with rfl | rfl <;> exact ⟨he.os,he.tape,he.output,he.size,he.same,he.inj,he.lies,he.bad⟩
     have h11 : w1.heap[c]? = some (.mapIter (some m) clk seen clk) := by rcases hw1 with rfl | rfl <;> exact h1
     have h21 : w1.heap[m]? = some (.map ms clk) := by rcases hw1 with rfl | rfl <;> exact h2
     have h6 := h4.pure es[j] (List.getElem_mem hje)
     have hpost := zfk (y := .mi (es.eraseIdx j) (some es[j])) (nm := nm) (ob' := .mapIter (some m) clk (seen.push e.born) clk) (u := .tup [.w (.bool true),es[j].1,es[j].2]) (v := .tuple #[.bool true,e.key,e.val]) he1 hh1 hc h11 rfl ⟨m,ms,clk,_,zoc h11,by
       simp only
       rw [Array.getElem?_setIfInBounds,if_neg (Ne.symm hcm)]; exact h21,h3,by
       refine ⟨?_,fun q hq => h4.pure q (List.mem_of_mem_eraseIdx hq),h4.nd,h4.old,fun q hq => ?_⟩
       ·have h5 : (ms.toList.filter fun x => !(seen.push e.born).contains x.born) = (ms.toList.filter fun x => !seen.contains x.born).filter fun x => !(x.born == e.born) := by
         rw [List.filter_filter]
         refine List.filter_congr fun x _ => ?_
         rw [contains_push,Bool.not_or,Bool.and_comm]
        have h7 : e = (ms.toList.filter fun x => !seen.contains x.born)[j]'hjt := by rw [← hee]; simp only [← hLl]; simp
        rw [h5]
        have h8 := zoh (fun x : MapEntry => x.born) (ms.toList.filter fun x => !seen.contains x.born) j hjt (h4.nd.sublist (List.Sublist.map _ List.filter_sublist))
        rw [← h7] at h8
        rw [h8,znm,h4.kv,← znm]
       ·injection hq with hq; subst hq
        exact ⟨h6,e,hem,by simp,hke⟩⟩ (by
       have e1 : e.key = pv es[j].1 := congrArg Prod.fst hke
       have e2 : e.val = pv es[j].2 := congrArg Prod.snd hke
       intro w2 loc2
       rw [e1,e2]
       exact .tup [.w (.bool true),es[j].1,es[j].2] [.bool true,pv es[j].1,pv es[j].2] rfl (fun k h7 h8 => by
        have : k = 0 ∨ k = 1 ∨ k = 2 := by simp at h7; omega
        rcases this with rfl | rfl | rfl
        ·exact .w _ rfl
        ·exact zjz (zdt h6.1)
        ·exact zjz h6.2))
     have hpost' : Post w0 E w loc true nm (.tup [.w (.bool true),es[j].1,es[j].2]) (put H id (.o (.mi (es.eraseIdx j) (some es[j])))) (.tuple #[.bool true,e.key,e.val]) { w1 with heap := w1.heap.setIfInBounds c (.mapIter (some m) clk (seen.push e.born) clk) } loc := by
      rcases hw1 with rfl | rfl
      ·exact hpost
      ·exact ⟨hpost.r,hpost.h,hpost.env,by obtain ⟨C,h,h'⟩ := hpost.ext; exact ⟨C,⟨h.size,h.keep,h.gone,h.imm,h.own,h.shape⟩,h'⟩,hpost.fresh,hpost.bad⟩
     refine ⟨_,_,_,_,hK j hje,hpost',fun k b hb => ?_,?_⟩
     ·rw [zar] at hb
      split at hb
      ·rename_i e; subst e; rw [hl]; simp
      ·rw [hb]; simp
     ·have hne : L.isEmpty = false := by
       cases hi : L.isEmpty with
       | false => rfl
       | true => have := Array.isEmpty_iff.1 hi; subst this; simp at hj
      simp only [Instr.next,Sem.run_bind,g1,g2,Result.andThen_ok,next_test_false seen ms clk clk h4.old (Nat.le_refl _),Bool.false_eq_true,if_false,hL,hold,hnew]
      have hca : ((if L.isEmpty then #[none] else #[]) ++ (L ++ #[]).map some : Array (Option MapEntry)) = L.map some := by rw [hne]; simp
      rw [hca]
      simp only [Array.size_map,hch,Result.andThen_ok]
      simp [hj,hee,zds h11]
  ·exact h.elim
 ·exact h.elim
def zig (T : zab) (sl : List AV) (op : Op) (H : Heap) (K : AV → Heap → Prop) : Prop :=
 match op with
 | .next x false => zlw (ev sl x) H K
 | op => zjy T sl op (fun x => K x H)
theorem zuo {P : Program} {w0 : World} {E : Nat → Prop} {T : zab} (hT : TOk P T) {w : World} {loc : Loc} {H : Heap} (he : Env w0 E w loc) (hh : HR w loc H) {nm : Nat} {sl : List AV} {a : Act} {op : Op} {K : AV → Heap → Prop} (hev : ∀ x,R w loc (ev sl x) (a.eval x)) (h : zig T sl op H K) :
  ∃ x H' v w',K x H' ∧ Post w0 E w loc true nm x H' v w' loc ∧ (∀ id b,look H' id = some b → look H id ≠ none) ∧ ∀ o : Oper,o.op = op → (execOp a.eval o).run P w = .ok (.value v) w' := by
 have key : zjy T sl op (fun x => K x H) → ∃ x H' v w',K x H' ∧ Post w0 E w loc true nm x H' v w' loc ∧ (∀ id b,look H' id = some b → look H id ≠ none) ∧ ∀ o : Oper,o.op = op → (execOp a.eval o).run P w = .ok (.value v) w' := fun h => by
  obtain ⟨x,v,w',h1,h2,h3⟩ := zwm (P := P) (nm := nm) hT he hh hev h
  exact ⟨x,H,v,w',h1,h2,fun id b hb => by rw [hb]; simp,h3⟩
 unfold zig at h
 split at h
 ·rename_i x
  obtain ⟨y,H',u,w',h1,h2,h3,h4⟩ := zry (P := P) (nm := nm) (ty := 0) he hh (hev x) h
  refine ⟨y,H',u,w',h1,h2,h3,fun o ho => ?_⟩
  have h5 : (Instr.next (a.eval x) false o.type).run P w = .ok u w' := h4
  simp [execOp,ho,h5]
 ·exact key h
def zhu (S : zah) (T : zab) (ops : List Oper) : List Bool → Nat → List Oper → List AV → Heap → (List AV → Heap → Prop) → Prop
 | _,_,[],sl,H,Q => Q sl H
 | [],nm,r,sl,H,Q => aops S T ops nm r sl H Q
 | true :: l,nm,o :: r,sl,H,Q => o.guard = none ∧ zig T sl o.op H (fun x H => zhu S T ops l (nm + 8) r (zal sl o.dst x) H Q)
 | false :: l,nm,o :: r,sl,H,Q => o.guard = none ∧ (aop S T nm sl o.op H).p ∧ zhu S T ops l (nm + 8) r (zal sl o.dst (aop S T nm sl o.op H).x) (aop S T nm sl o.op H).H Q
theorem zlm {P : Program} {w0 : World} {E : Nat → Prop} {T : zab} {S : zah} (hT : TOk P T) (hS : Fns P S) {ops : Array Oper} {K : Exit → Act → World → Prop} {Q : List AV → Heap → Prop} {B : Bs} {nz : Nat}
  (hK : ∀ sl H a w loc,Base w0 B w loc → Rel' w0 E loc ⟨sl,H,nz⟩ a w → Q sl H → K .normal a w) : ∀ (k : List Bool) (r : List Oper) (nm : Nat) (sl : List AV) (H : Heap) (a : Act) (w : World) (loc : Loc),nz = nm + 8 * r.length → Base w0 B w loc →
  Rel' w0 E loc ⟨sl,H,nm⟩ a w → zhu S T ops.toList k nm r sl H Q → wpList P ops K r a w
 | k,[],nm,sl,H,a,w,loc,hz,hb,hr,h => by
  simp only [List.length_nil,Nat.mul_zero,Nat.add_zero] at hz
  subst hz
  exact wpList_nil (hK sl H a w loc hb hr (by cases k with | nil => exact h | cons b _ => cases b <;> exact h))
 | [],o :: r,nm,sl,H,a,w,loc,hz,hb,hr,h => zdd (ops := ops) hT hS hK (o :: r) nm sl H a w loc hz hb hr h
 | true :: l,o :: r,nm,sl,H,a,w,loc,hz,hb,hr,h => by
  have hz' : nz = nm + 8 + 8 * r.length := by simp at hz; omega
  obtain ⟨hg,hp⟩ := h
  refine wpList_step fun Kn hKn => ?_
  rw [if_pos (by simp [Region.wanted,hg])]
  obtain ⟨x,H',v,w',hrest,hpost,hin,hrun⟩ := zuo (P := P) (nm := nm) hT hr.env hr.heap (fun x => ev_R hr.slots x) hp
  exact (zap (w' := w') (loc' := loc) (out := ⟨True,x,H'⟩) (hrun o rfl) hpost) Kn K (fun v w' loc' hpost => hKn _ _ (zlm hT hS hK l r (nm + 8) _ _ _ w' loc' hz' (hb.post hpost) (zgf hr hpost (fun id b hl => Or.inl (hin id b hl)) o.dst) hrest))
 | false :: l,o :: r,nm,sl,H,a,w,loc,hz,hb,hr,h => by
  have hz' : nz = nm + 8 + 8 * r.length := by simp at hz; omega
  obtain ⟨hg,hp,hrest⟩ := h
  refine wpList_step fun Kn hKn => ?_
  rw [if_pos (by simp [Region.wanted,hg])]
  have hop := zce hT hS hr.env hr.heap (fun id h1 _ => hr.fresh id h1) o (fun x _ => ev_R hr.slots x) hp
  exact hop Kn K (fun v w' loc' hpost => hKn _ _ (zlm hT hS hK l r (nm + 8) _ _ _ w' loc' hz' (hb.post hpost) (zgf hr hpost (zew hp) o.dst) hrest))
inductive RP where
 | std
 | frz (fs : List Nat)
 | opn (fs : List Nat) (k : Nat)
 | prs (l : List (Nat × Nat))
 | tst (k : List Bool)
 | wkp (l : List (Nat × Nat))
 | drs (l : List (Nat × Nat)) (k : Nat)
 | drf (l : List (Nat × Nat)) (k f : Nat)
 | wks
abbrev zlp := Nat → RP
def yml (T : zab) (f : Nat) (ops : List Oper) : Bool := match ops[f]? with
 | some o => ztm T o
 | none => false
def zcm (T : zab) (pl : zlp) : Code → Bool
 | .region id ops draw => match pl id with
  | .std => !draw || zmt T ops.toList
  | .frz _ => !draw || zmt T ops.toList
  | .opn _ _ => !draw
  | .tst _ => !draw
  | .prs p => draw && zhp T ops.toList p
  | .wkp p => draw && zhp T ops.toList p
  | .wks => !draw || zmt T ops.toList
  | .drs p k => draw && (decide (k ≤ ops.toList.length) && (zhp T (ops.toList.take k) p && tailB k ops.toList))
  | .drf p k f => draw && (decide (k < ops.toList.length ∧ f < k) && (zhp T (ops.toList.take k) p && (zoa f k ops.toList && yml T f ops.toList)))
 | .seq a b => zcm T pl a && zcm T pl b
 | .cond _ a b => zcm T pl a && zcm T pl b
 | .block _ c => zcm T pl c
 | .loop c => zcm T pl c
 | _ => true
def wkF (S : zah) (T : zab) (l : List Oper) (p : List (Nat × Nat)) (nx : Nat) (sl : List AV) (H : Heap) (Q : Exit → ASt → Prop) : Prop := ∃ sl' H',Weak ⟨sl,H,nx⟩ ⟨sl',H',nx⟩ ∧ zep S T l p nx [] l sl' H' (regK (nx + 8 * l.length) Q)
def drF (S SO : zah) (T : zab) (l : List Oper) (p : List (Nat × Nat)) (k nx : Nat) (sl : List AV) (H : Heap) (Q : Exit → ASt → Prop) : Prop :=
 ∃ sl' H',Weak ⟨sl,H,nx⟩ ⟨sl',H',nx⟩ ∧ zep S T (l.take k) p nx [] (l.take k) sl' H' (fun sl H => zjf S SO T l 0 (nx + 8 * k) (l.drop k) sl H (regK (nx + 8 * l.length) Q))
def ycr (l : List Oper) (k f : Nat) : List Oper := match l.drop k,l[f]? with
 | c :: r,some o => c :: o :: r
 | _,_ => []
def dstF (l : List Oper) (f : Nat) : Option Tmp := match l[f]? with
 | some o => o.dst
 | none => none
def dfF (S SO : zah) (T : zab) (l : List Oper) (p : List (Nat × Nat)) (k f nx : Nat) (sl : List AV) (H : Heap) (Q : Exit → ASt → Prop) : Prop :=
 ∃ sl' H',Weak ⟨sl,H,nx⟩ ⟨sl',H',nx⟩ ∧ zep S T (l.take k) p nx [] (l.take k) sl' H' (fun sl H => zjf S SO T l 0 (nx + 8 * k) (l.drop k) sl H (regK (nx + 8 * (l.length + 1)) Q) ∧ zjf S SO T l 0 (nx + 8 * k) (ycr l k f) (zal sl (dstF l f) .junk) H (regK (nx + 8 * (l.length + 1)) Q))
def wsF (S : zah) (T : zab) (l : List Oper) (nx : Nat) (sl : List AV) (H : Heap) (Q : Exit → ASt → Prop) : Prop := ∃ sl' H',Weak ⟨sl,H,nx⟩ ⟨sl',H',nx⟩ ∧ aops S T l nx l sl' H' (regK (nx + 8 * l.length) Q)
def awpO (S SO : zah) (T : zab) (pl : zlp) : Code → (Exit → ASt → Prop) → ASt → Prop
 | .skip,Q,σ => Q .normal σ
 | .label _,Q,σ => Q .normal σ
 | .region id ops _,Q,σ => match pl id with
  | .std => aops S T ops.toList σ.nx ops.toList σ.sl σ.H (regK (σ.nx + 8 * ops.toList.length) Q)
  | .prs p => zep S T ops.toList p σ.nx [] ops.toList σ.sl σ.H (regK (σ.nx + 8 * ops.toList.length) Q)
  | .frz fs => frzK fs σ.sl σ.H (fun sl H => aops S T ops.toList σ.nx ops.toList sl H (regK (σ.nx + 8 * ops.toList.length) Q))
  | .opn fs k => frzK fs σ.sl σ.H (fun sl H => zjf S SO T ops.toList k σ.nx ops.toList sl H (regK (σ.nx + 8 * ops.toList.length) Q))
  | .tst k => zhu S T ops.toList k σ.nx ops.toList σ.sl σ.H (regK (σ.nx + 8 * ops.toList.length) Q)
  | .wkp p => wkF S T ops.toList p σ.nx σ.sl σ.H Q
  | .drs p k => drF S SO T ops.toList p k σ.nx σ.sl σ.H Q
  | .drf p k f => dfF S SO T ops.toList p k f σ.nx σ.sl σ.H Q
  | .wks => wsF S T ops.toList σ.nx σ.sl σ.H Q
 | .seq a b,Q,σ => awpO S SO T pl a (seqK (awpO S SO T pl b Q) Q) σ
 | .cond c a b,Q,σ => match ev σ.sl c with
   | .w (.bool t) => zhy t (awpO S SO T pl a Q σ) (awpO S SO T pl b Q σ)
   | _ => False
 | .block id c,Q,σ => awpO S SO T pl c (zgk id Q) σ
 | .loop c,Q,σ => yjb (awpO S SO T pl c) Q σ
 | .exit id,Q,σ => Q (.exit id) σ
 | .ret,Q,σ => Q .ret σ
 | _,_,_ => False
open Classical in
theorem zty {P : Program} {w0 : World} {E : Nat → Prop} {T : zab} {S SO : zah} {pl : zlp} (hm : P.follows .mixedOrders = true) (hT : TOk P T) (hS : Fns P S) (hSO : FnsO P SO) {B : Bs} : ∀ (c : Code) (Q : Exit → ASt → Prop) (σ : ASt) (a : Act) (w : World),
  zcm T pl c = true → awpO S SO T pl c Q σ → Rel w0 E B σ a w → c.wp P (Low w0 E B Q) a w := by
 intro c
 induction c with
 | skip => intro Q σ a w hdr h hr; exact wp_skip ⟨σ,hr,h⟩
 | label l => intro Q σ a w hdr h hr; exact wp_label ⟨σ,hr,h⟩
 | ret => intro Q σ a w hdr h hr; exact wp_ret ⟨σ,hr,h⟩
 | exit id => intro Q σ a w hdr h hr; exact wp_exit ⟨σ,hr,h⟩
 | region id ops draw =>
  intro Q σ a w hdr h hr
  obtain ⟨loc,hb,hr⟩ := hr
  obtain ⟨sl,H,nx⟩ := σ
  have hK : ∀ sl H a w loc,Base w0 B w loc → Rel' w0 E loc ⟨sl,H,nx + 8 * ops.toList.length⟩ a w → regK (nx + 8 * ops.toList.length) Q sl H → Low w0 E B Q .normal a w := fun sl H a w loc h1 h2 h3 => ⟨_,⟨loc,h1,h2⟩,h3⟩
  simp only [zcm] at hdr
  simp only [awpO] at h
  cases hp : pl id with
  | std =>
   simp only [hp] at hdr h
   cases draw with
   | false => exact wp_region_list (zdd hT hS hK ops.toList nx sl H a w loc rfl hb hr h)
   | true => exact zfb hT hS hm w0 E ops.toList _ _ B nx sl H a w loc id (by simpa using hdr) hK hb hr h
  | prs p =>
   simp only [hp] at hdr h
   simp only [Bool.and_eq_true] at hdr
   obtain ⟨hd1,hd2⟩ := hdr
   subst hd1
   exact zlf hT hS hm hd2 hK hb hr h
  | frz fs =>
   simp only [hp] at hdr h
   obtain ⟨sl',H',hw,h⟩ := ztj (nx := nx) _ _ _ _ h
   obtain ⟨loc',hb',hr'⟩ := hw _ _ _ _ _ ⟨loc,hb,hr⟩
   cases draw with
   | false => exact wp_region_list (zdd hT hS hK ops.toList nx sl' H' a w loc' rfl hb' hr' h)
   | true => exact zfb hT hS hm w0 E ops.toList _ _ B nx sl' H' a w loc' id (by simpa using hdr) hK hb' hr' h
  | opn fs k =>
   simp only [hp] at hdr h
   obtain ⟨sl',H',hw,h⟩ := ztj (nx := nx) _ _ _ _ h
   obtain ⟨loc',hb',hr'⟩ := hw _ _ _ _ _ ⟨loc,hb,hr⟩
   cases draw with
   | false => exact wp_region_list (zfw hT hS hSO hK k ops.toList nx sl' H' a w loc' rfl hb' hr' h)
   | true => simp at hdr
  | tst k =>
   simp only [hp] at hdr h
   cases draw with
   | false => exact wp_region_list (zlm hT hS hK k ops.toList nx sl H a w loc rfl hb hr h)
   | true => simp at hdr
  | wkp p =>
   simp only [hp] at hdr h
   simp only [Bool.and_eq_true] at hdr
   obtain ⟨hd1,hd2⟩ := hdr
   subst hd1
   obtain ⟨sl',H',hw,h⟩ := h
   obtain ⟨loc',hb',hr'⟩ := hw _ _ _ _ _ ⟨loc,hb,hr⟩
   exact zlf hT hS hm hd2 hK hb' hr' h
  | wks =>
   simp only [hp] at hdr h
   obtain ⟨sl',H',hw,h⟩ := h
   obtain ⟨loc',hb',hr'⟩ := hw _ _ _ _ _ ⟨loc,hb,hr⟩
   cases draw with
   | false => exact wp_region_list (zdd hT hS hK ops.toList nx sl' H' a w loc' rfl hb' hr' h)
   | true => exact zfb hT hS hm w0 E ops.toList _ _ B nx sl' H' a w loc' id (by simpa using hdr) hK hb' hr' h
  | drs p k =>
   simp only [hp] at hdr h
   simp only [Bool.and_eq_true,decide_eq_true_eq] at hdr
   obtain ⟨hd1,hd0,hd2,hd3⟩ := hdr
   subst hd1
   obtain ⟨sl',H',hw,h⟩ := h
   obtain ⟨loc',hb',hr'⟩ := hw _ _ _ _ _ ⟨loc,hb,hr⟩
   have hlk : (ops.toList.take k).length = k := by rw [List.length_take]; omega
   have e : ops = (ops.toList.take k ++ ops.toList.drop k).toArray := by rw [List.take_append_drop]
   have e2 : ops.toList.take k ++ ops.toList.drop k = ops.toList := List.take_append_drop _ _
   have hz : nx + 8 * ops.toList.length = nx + 8 * k + 8 * (ops.toList.drop k).length := by rw [List.length_drop]; omega
   rw [e]
   refine zqx (l := ops.toList.take k) (suf := ops.toList.drop k) (fl := k) hT hS hm hd2 (by rw [hlk,e2]; exact hd3) (fun sl2 H2 a2 w2 loc2 hb2 hr2 hq => ?_) (fun of c hof => by rw [List.getElem?_eq_none (by omega)] at hof; cases hof) hb' hr' h
   rw [hlk] at hr2
   refine zfw (ops := (ops.toList.take k ++ ops.toList.drop k).toArray) hT hS hSO hK 0 (ops.toList.drop k) (nx + 8 * k) sl2 H2 a2 w2 loc2 hz hb2 hr2 ?_
   rw [← e]; exact hq
  | drf p k f =>
   simp only [hp] at hdr h
   simp only [Bool.and_eq_true,decide_eq_true_eq] at hdr
   obtain ⟨hd1,⟨hd0,hdf⟩,hd2,hd3,hd4⟩ := hdr
   subst hd1
   obtain ⟨sl',H',hw,h⟩ := h
   obtain ⟨loc',hb',hr'⟩ := hw _ _ _ _ _ ⟨loc,hb,hr⟩
   have hlk : (ops.toList.take k).length = k := by rw [List.length_take]; omega
   have e : ops = (ops.toList.take k ++ ops.toList.drop k).toArray := by rw [List.take_append_drop]
   have e2 : ops.toList.take k ++ ops.toList.drop k = ops.toList := List.take_append_drop _ _
   have hdl : (ops.toList.drop k).length = ops.toList.length - k := List.length_drop
   have hK1 : ∀ sl H a w loc,Base w0 B w loc → Rel' w0 E loc ⟨sl,H,nx + 8 * ops.toList.length⟩ a w → regK (nx + 8 * (ops.toList.length + 1)) Q sl H → Low w0 E B Q .normal a w := fun sl H a w loc h1 h2 h3 =>
    ⟨⟨sl,H,nx + 8 * (ops.toList.length + 1)⟩,⟨loc,h1,⟨h2.size,h2.slots,h2.heap,h2.env,fun id hid => h2.fresh id (by simp only at hid ⊢; omega),h2.defers,fun id b hl => by have := h2.low id b hl; simp only at this ⊢; omega⟩⟩,h3⟩
   have hK3 : ∀ sl H a w loc,Base w0 B w loc → Rel' w0 E loc ⟨sl,H,nx + 8 * (ops.toList.length + 1)⟩ a w → regK (nx + 8 * (ops.toList.length + 1)) Q sl H → Low w0 E B Q .normal a w := fun sl H a w loc h1 h2 h3 => ⟨_,⟨loc,h1,h2⟩,h3⟩
   rw [e]
   refine zqx (l := ops.toList.take k) (suf := ops.toList.drop k) (fl := f) hT hS hm hd2 (by rw [hlk,e2]; exact hd3) (fun sl2 H2 a2 w2 loc2 hb2 hr2 hq => ?_) (fun of c hof hc => ?_) hb' hr' h
   ·rw [hlk] at hr2
    refine zfw (ops := (ops.toList.take k ++ ops.toList.drop k).toArray) hT hS hSO hK1 0 (ops.toList.drop k) (nx + 8 * k) sl2 H2 a2 w2 loc2 (by omega) hb2 hr2 ?_
    rw [← e]; exact hq.1
   ·have hof2 : ops.toList[f]? = some of := by
     rw [List.getElem?_take] at hof
     rw [if_pos hdf] at hof
     exact hof
    unfold yml at hd4
    rw [hof2] at hd4
    refine ⟨hd4,fun sl2 H2 a2 w2 loc2 hb2 hr2 hq => ?_⟩
    rw [hlk] at hr2
    have hdr : ops.toList.drop k = c :: (ops.toList.drop k).drop 1 := by
     cases hdd : ops.toList.drop k with
     | nil => rw [hdd] at hc; cases hc
     | cons x r => rw [hdd] at hc; injection hc with hc; subst hc; rfl
    have hq2 := hq.2
    have hbe : ycr ops.toList k f = c :: of :: (ops.toList.drop k).drop 1 := by
     unfold ycr
     rw [hof2]
     cases hdd : ops.toList.drop k with
     | nil => rw [hdd] at hc; cases hc
     | cons x r => rw [hdd] at hc; injection hc with hc; subst hc; rfl
    have hdst : dstF ops.toList f = of.dst := by unfold dstF; rw [hof2]
    rw [hbe,hdst] at hq2
    refine zfw (ops := (ops.toList.take k ++ ops.toList.drop k).toArray) hT hS hSO hK3 0 _ (nx + 8 * k) _ H2 a2 w2 loc2 (by simp only [List.length_cons,List.length_drop]; omega) hb2 hr2 ?_
    rw [← e]; exact hq2
 | seq x y ihx ihy =>
  intro Q σ a w hdr h hr
  refine wp_seq (wp_mono (ihx _ σ a w (by simp only [zcm,Bool.and_eq_true] at hdr; exact hdr.1) h hr) ?_)
  rintro e a' w' ⟨σ',hr',hq⟩
  cases e with
  | normal => exact ihy Q σ' a' w' (by simp only [zcm,Bool.and_eq_true] at hdr; exact hdr.2) hq hr'
  | _ => exact ⟨σ',hr',hq⟩
 | cond c x y ihx ihy =>
  intro Q σ a w hdr h hr
  simp only [awpO,zhy] at h
  simp only [zcm,Bool.and_eq_true] at hdr
  obtain ⟨loc,hb,hr⟩ := hr
  split at h
  ·rename_i t hc
   have hv := ev_R hr.slots c
   rw [hc] at hv
   have hv := hv.wv
   cases t with
   | true => exact wp_cond_true hv (ihx Q σ a w hdr.1 (h.1 rfl) ⟨loc,hb,hr⟩)
   | false => exact wp_cond_false hv (ihy Q σ a w hdr.2 (h.2 rfl) ⟨loc,hb,hr⟩)
  ·exact h.elim
 | block id c ih =>
  intro Q σ a w hdr h hr
  refine wp_block (wp_mono (ih _ σ a w hdr h hr) ?_)
  rintro e a' w' ⟨σ',hr',hq⟩
  cases e with
  | exit id' =>
   simp only [zgk,Exit.inBlock] at hq ⊢
   split at hq
   ·rename_i he; rw [if_pos he]; exact ⟨σ',hr',hq⟩
   ·rename_i he; rw [if_neg he]; exact ⟨σ',hr',hq⟩
  | _ => exact ⟨σ',hr',hq⟩
 | loop c ih =>
  intro Q σ a w hdr h hr
  obtain ⟨I,⟨n0,σ0,hw0,hI0⟩,hround⟩ := h
  let p : Act → World → Nat → Prop := fun a w n => ∃ σ,Rel w0 E B σ a w ∧ I n σ
  have hleast : ∀ a w,(∃ n,p a w n) → ∃ m,p a w m ∧ ∀ k,p a w k → m ≤ k := fun a w ⟨n,hn⟩ => let ⟨m,h1,_,h3⟩ := ypz n hn; ⟨m,h1,h3⟩
  let μ : Act → World → Nat := fun a w => if h : ∃ n,p a w n then Classical.choose (hleast a w h) else 0
  refine wp_loop (fun a w => ∃ n,p a w n) μ ⟨n0,σ0,hw0 w0 E B a w hr,hI0⟩ ?_
  intro a w hex
  have hμ : μ a w = Classical.choose (hleast a w hex) := dif_pos hex
  obtain ⟨⟨σ1,hr1,hI1⟩,hmin⟩ := Classical.choose_spec (hleast a w hex)
  rw [← hμ] at hI1
  refine wp_mono (ih _ σ1 a w hdr (hround _ σ1 hI1) hr1) ?_
  rintro e a' w' ⟨σ',hr',hq⟩
  cases e with
  | normal =>
   obtain ⟨m,σ2,hlt,hw2,hI2⟩ := hq
   have hp : p a' w' m := ⟨σ2,hw2 w0 E B a' w' hr',hI2⟩
   refine ⟨⟨m,hp⟩,?_⟩
   have hμ' : μ a' w' = Classical.choose (hleast a' w' ⟨m,hp⟩) := dif_pos ⟨m,hp⟩
   have := (Classical.choose_spec (hleast a' w' ⟨m,hp⟩)).2 m hp
   rw [← hμ'] at this
   exact Nat.lt_of_le_of_lt this hlt
  | _ =>
   obtain ⟨σ2,hw2,hq⟩ := hq
   exact ⟨σ2,hw2 w0 E B a' w' hr',hq⟩
 | _ => intro Q σ a w hdr h hr; exact h.elim
theorem zqi {P : Program} {T : zab} {S SO : zah} (hm : P.follows .mixedOrders = true) (hT : TOk P T) (hS : Fns P S) (hSO : FnsO P SO) {f : FuncId} {fn : Func} {c : Code} (hf : P.funcs[f]? = some fn) (hb : fn.body = some c) {spec : zas}
  (h : ∀ xs pins,(spec xs pins).p → pins.length ≤ 4 ∧ ∃ pl,zcm T pl c = true ∧ awpO S SO T pl c (ysu T fn.results.toList pins (spec xs pins)) ⟨xs ++ List.replicate (fn.ntmps - xs.length) .junk,pinHeap 0 pins,4⟩) : zol P f spec :=
 ygy hT hf hb (Qp := fun xs pins => ysu T fn.results.toList pins (spec xs pins)) (fun _ _ _ _ h => h) (fun xs pins hp => ⟨(h xs pins hp).1,fun w0 E B a w hr => (h xs pins hp).2.elim fun pl hh => zty hm hT hS hSO c _ _ _ _ hh.1 hh.2 hr⟩)
theorem znv {P : Program} {T : zab} {S SO : zah} (hm : P.follows .mixedOrders = true) (hT : TOk P T) (hS : Fns P S) (hSO : FnsO P SO) {f : FuncId} {fn : Func} {c : Code} (hf : P.funcs[f]? = some fn) (hb : fn.body = some c) {spec : zas}
  (h : ∀ xs pins,(spec xs pins).p → closedB pins = true → pins.length ≤ 4 ∧ ∃ pl,zcm T pl c = true ∧ awpO S SO T pl c (yaj T fn.results.toList pins (spec xs pins)) ⟨xs ++ List.replicate (fn.ntmps - xs.length) .junk,pinHeap 0 pins,4⟩) : zbg P f spec :=
 ygz (S := S) hT hS hf hb (Qp := fun xs pins => yaj T fn.results.toList pins (spec xs pins)) (fun _ _ _ _ h => h) (fun xs pins hp hc => ⟨(h xs pins hp hc).1,fun w0 E B a w hr => (h xs pins hp hc).2.elim fun pl hh => zty hm hT hS hSO c _ _ _ _ hh.1 hh.2 hr⟩)
def yee (S SO : zah) (T : zab) (pl : zlp) (b : Code) (Q : Exit → ASt → Prop) : Exit → ASt → Prop := seqK (awpO S SO T pl b Q) Q
section rules
variable {S SO : zah} {T : zab} {pl : zlp} {Q : Exit → ASt → Prop} {σ : ASt}
theorem zzx : awpO S SO T pl .skip Q σ = Q .normal σ := rfl
theorem ztz {l : Nat} : awpO S SO T pl (.label l) Q σ = Q .normal σ := rfl
theorem yge : awpO S SO T pl .ret Q σ = Q .ret σ := rfl
theorem zzy {id : Nat} : awpO S SO T pl (.exit id) Q σ = Q (.exit id) σ := rfl
theorem zrm {id : Nat} {l : List Oper} {draw : Bool} : awpO S SO T pl (.region id l.toArray draw) Q σ = match pl id with
  | .std => aops S T l σ.nx l σ.sl σ.H (regK (σ.nx + 8 * l.length) Q)
  | .prs p => zep S T l p σ.nx [] l σ.sl σ.H (regK (σ.nx + 8 * l.length) Q)
  | .frz fs => frzK fs σ.sl σ.H (fun sl H => aops S T l σ.nx l sl H (regK (σ.nx + 8 * l.length) Q))
  | .opn fs k => frzK fs σ.sl σ.H (fun sl H => zjf S SO T l k σ.nx l sl H (regK (σ.nx + 8 * l.length) Q))
  | .tst k => zhu S T l k σ.nx l σ.sl σ.H (regK (σ.nx + 8 * l.length) Q)
  | .wkp p => wkF S T l p σ.nx σ.sl σ.H Q
  | .drs p k => drF S SO T l p k σ.nx σ.sl σ.H Q
  | .drf p k f => dfF S SO T l p k f σ.nx σ.sl σ.H Q
  | .wks => wsF S T l σ.nx σ.sl σ.H Q := by
 unfold awpO; cases pl id <;> rfl
theorem ygd {a b : Code} : awpO S SO T pl (.seq a b) Q σ = awpO S SO T pl a (yee S SO T pl b Q) σ := rfl
theorem zua {id : Nat} {c : Code} : awpO S SO T pl (.block id c) Q σ = awpO S SO T pl c (zgk id Q) σ := rfl
theorem zzz {c : Operand} {a b : Code} : awpO S SO T pl (.cond c a b) Q σ = match ev σ.sl c with
   | .w (.bool t) => zhy t (awpO S SO T pl a Q σ) (awpO S SO T pl b Q σ)
   | _ => False := rfl
theorem zfd {c : Code} (h : yjb (awpO S SO T pl c) Q σ) : awpO S SO T pl (.loop c) Q σ := h
theorem zac {b : Code} : yee S SO T pl b Q .normal σ = awpO S SO T pl b Q σ := rfl
theorem zpw {b : Code} {id : Nat} : yee S SO T pl b Q (.exit id) σ = Q (.exit id) σ := rfl
theorem ztd {b : Code} : yee S SO T pl b Q .ret σ = Q .ret σ := rfl
variable {ops r : List Oper} {o : Oper} {nm k : Nat} {sl : List AV} {H : Heap} {Q' : List AV → Heap → Prop}
def ykg (q : Out) (sl : List AV) (dst : Option Tmp) (K : List AV → Heap → Prop) : Prop := q.p ∧ K (zal sl dst q.x) q.H
theorem yhk {q : Out} {dst : Option Tmp} {K : List AV → Heap → Prop} : ykg q sl dst K = (q.p ∧ K (zal sl dst q.x) q.H) := rfl
theorem zuh {dst : Option Tmp} {op : Op} {type : TypeId} {pos : String} {after : Array Edge} : zjf S SO T ops 0 nm (⟨dst,op,type,pos,after,none⟩ :: r) sl H Q' =
  ykg (zcn SO T nm sl op H) sl dst (fun sl' H' => aops S T ops (nm + 8) r sl' H' Q') := by
 simp [zjf,ykg]
theorem zui {dst : Option Tmp} {op : Op} {type : TypeId} {pos : String} {after : Array Edge} : zjf S SO T ops (k + 1) nm (⟨dst,op,type,pos,after,none⟩ :: r) sl H Q' =
  ((aop S T nm sl op H).p ∧ zjf S SO T ops k (nm + 8) r (zal sl dst (aop S T nm sl op H).x) (aop S T nm sl op H).H Q') := by
 simp [zjf]
theorem yaf : zhu S T ops [] nm r sl H Q' = aops S T ops nm r sl H Q' := by
 cases r <;> rfl
theorem zug {l : List Bool} : zhu S T ops l nm [] sl H Q' = Q' sl H := by
 cases l with
 | nil => rfl
 | cons b _ => cases b <;> rfl
theorem yol {l : List Bool} {dst : Option Tmp} {op : Op} {type : TypeId} {pos : String} {after : Array Edge} : zhu S T ops (true :: l) nm (⟨dst,op,type,pos,after,none⟩ :: r) sl H Q' =
  (zig T sl op H (fun x H => zhu S T ops l (nm + 8) r (zal sl dst x) H Q')) := by
 simp [zhu]
theorem yom {l : List Bool} {dst : Option Tmp} {op : Op} {type : TypeId} {pos : String} {after : Array Edge} : zhu S T ops (false :: l) nm (⟨dst,op,type,pos,after,none⟩ :: r) sl H Q' =
  ((aop S T nm sl op H).p ∧ zhu S T ops l (nm + 8) r (zal sl dst (aop S T nm sl op H).x) (aop S T nm sl op H).H Q') := by
 simp [zhu]
end rules
end Ax
end Go.Proofs.Ytebacgkeoefnkaa
namespace Go.Proofs.Ytebacgkeoefnkaa
open Ax
theorem evTO : (type_of% @zzx) ∧
  (type_of% @ztz) ∧
  (type_of% @yge) ∧
  (type_of% @zzy) ∧
  (type_of% @zrm) ∧
  (type_of% @ygd) ∧
  (type_of% @zua) ∧
  (type_of% @zzz) ∧
  (type_of% @zpw) ∧
  (type_of% @ztd) ∧
  (type_of% @zuh) ∧
  (type_of% @zui) ∧
  (type_of% @yaf) ∧
  (type_of% @zug) ∧
  (type_of% @yol) ∧
  (type_of% @yom) :=
 ⟨@zzx,@ztz,@yge,@zzy,@zrm,@ygd,@zua,@zzz,@zpw,@ztd,@zuh,@zui,@yaf,@zug,@yol,@yom⟩
theorem evDO : (type_of% @Ax.frzS.eq_1) ∧
  (type_of% @Ax.frzL.eq_1) ∧
  (type_of% @Ax.frzL.eq_2) ∧
  (type_of% @Ax.fzL.eq_1) ∧
  (type_of% @Ax.fzL.eq_2) ∧
  (type_of% @Ax.fzH.eq_1) ∧
  (type_of% @Ax.fzH.eq_2) ∧
  (type_of% @Ax.AV.fz.eq_1) ∧
  (type_of% @Ax.AV.fz.eq_2) ∧
  (type_of% @Ax.AV.fz.eq_3) ∧
  (type_of% @Ax.AV.fz.eq_4) ∧
  (type_of% @Ax.AV.fz.eq_5) ∧
  (type_of% @Ax.fiL.eq_1) ∧
  (type_of% @Ax.fiL.eq_2) ∧
  (type_of% @Ax.fiH.eq_1) ∧
  (type_of% @Ax.fiH.eq_2) ∧
  (type_of% @Ax.AV.fi.eq_1) ∧
  (type_of% @Ax.AV.fi.eq_2) ∧
  (type_of% @Ax.AV.fi.eq_3) ∧
  (type_of% @Ax.AV.fi.eq_4) ∧
  (type_of% @Ax.AV.fi.eq_5) ∧
  (type_of% @Ax.fgL.eq_1) ∧
  (type_of% @Ax.fgL.eq_2) ∧
  (type_of% @Ax.fgH.eq_1) ∧
  (type_of% @Ax.fgH.eq_2) ∧
  (type_of% @Ax.AV.fg.eq_1) ∧
  (type_of% @Ax.AV.fg.eq_2) ∧
  (type_of% @Ax.AV.fg.eq_3) ∧
  (type_of% @Ax.AV.fg.eq_4) ∧
  (type_of% @Ax.AV.fg.eq_5) ∧
  (type_of% @Ax.aOpen.eq_1) ∧
  (type_of% @Ax.openOut.eq_1) ∧
  (type_of% @Ax.reach.eq_1) ∧
  (type_of% @Ax.reach.eq_2) ∧
  (type_of% @Ax.reach.eq_3) ∧
  (type_of% @Ax.walk.eq_1) ∧
  (type_of% @Ax.walk.eq_2) ∧
  (type_of% @Ax.allIn.eq_1) ∧
  (type_of% @Ax.allIn.eq_2) ∧
  (type_of% @Ax.pinsIn.eq_1) ∧
  (type_of% @Ax.pinsIn.eq_2) ∧
  (type_of% @Ax.pinsR.eq_1) ∧
  (type_of% @Ax.pinsR.eq_2) ∧
  (type_of% @Ax.backO.eq_1) ∧
  (type_of% @Ax.backO.eq_2) ∧
  (type_of% @Ax.gone.eq_1) ∧
  (type_of% @Ax.AV.sids.eq_1) ∧
  (type_of% @Ax.AV.sids.eq_2) ∧
  (type_of% @Ax.AV.sids.eq_3) ∧
  (type_of% @Ax.AV.sids.eq_4) ∧
  (type_of% @Ax.AV.sids.eq_5) ∧
  (type_of% @Ax.AV.sids.eq_6) ∧
  (type_of% @Ax.sidsL.eq_1) ∧
  (type_of% @Ax.sidsL.eq_2) ∧
  (type_of% @Ax.AV.sidsH.eq_1) ∧
  (type_of% @Ax.AV.sidsH.eq_2) ∧
  (type_of% @Ax.AV.sidsH.eq_3) ∧
  (type_of% @Ax.AV.sidsH.eq_4) ∧
  (type_of% @Ax.AV.sidsH.eq_5) ∧
  (type_of% @Ax.AV.sidsH.eq_6) ∧
  (type_of% @Ax.sidsLH.eq_1) ∧
  (type_of% @Ax.sidsLH.eq_2) ∧
  (type_of% @Ax.Blk.renB.eq_1) ∧
  (type_of% @Ax.idxOf.eq_1) ∧
  (type_of% @Ax.EndsXO.eq_1) ∧
  (type_of% @Ax.endIds.eq_1) ∧
  (type_of% @Ax.reachE.eq_1) ∧
  (type_of% @Ax.reachE.eq_2) ∧
  (type_of% @Ax.reachE.eq_3) ∧
  (type_of% @Ax.idsAt.eq_1) ∧
  (type_of% @Ax.idsAtL.eq_1) ∧
  (type_of% @Ax.idsAtL.eq_2) ∧
  (type_of% @Ax.walkI.eq_1) ∧
  (type_of% @Ax.walkI.eq_2) ∧
  (type_of% @Ax.matchE.eq_1) ∧
  (type_of% @Ax.matchE.eq_2) ∧
  (type_of% @Ax.matchE.eq_3) ∧
  (type_of% @Ax.aopF.eq_1) ∧
  (type_of% @Ax.foot.eq_1) ∧
  (type_of% @Ax.footA.eq_1) ∧
  (type_of% @Ax.keepIn.eq_1) ∧
  (type_of% @Ax.keepIn.eq_2) ∧
  (type_of% @Ax.dropIn.eq_1) ∧
  (type_of% @Ax.dropIn.eq_2) ∧
  (type_of% @Ax.bids.eq_1) ∧
  (type_of% @Ax.bids.eq_2) ∧
  (type_of% @Ax.heldB.eq_1) ∧
  (type_of% @Ax.memOk.eq_1) ∧
  (type_of% @Ax.clearOf.eq_1) :=
 ⟨@Ax.frzS.eq_1,@Ax.frzL.eq_1,@Ax.frzL.eq_2,@Ax.fzL.eq_1,@Ax.fzL.eq_2,@Ax.fzH.eq_1,@Ax.fzH.eq_2,@Ax.AV.fz.eq_1,@Ax.AV.fz.eq_2,@Ax.AV.fz.eq_3,@Ax.AV.fz.eq_4,@Ax.AV.fz.eq_5,@Ax.fiL.eq_1,@Ax.fiL.eq_2,@Ax.fiH.eq_1,@Ax.fiH.eq_2,@Ax.AV.fi.eq_1,@Ax.AV.fi.eq_2,@Ax.AV.fi.eq_3,@Ax.AV.fi.eq_4,@Ax.AV.fi.eq_5,@Ax.fgL.eq_1,@Ax.fgL.eq_2,@Ax.fgH.eq_1,@Ax.fgH.eq_2,@Ax.AV.fg.eq_1,@Ax.AV.fg.eq_2,@Ax.AV.fg.eq_3,@Ax.AV.fg.eq_4,@Ax.AV.fg.eq_5,@Ax.aOpen.eq_1,@Ax.openOut.eq_1,@Ax.reach.eq_1,@Ax.reach.eq_2,@Ax.reach.eq_3,@Ax.walk.eq_1,@Ax.walk.eq_2,@Ax.allIn.eq_1,@Ax.allIn.eq_2,@Ax.pinsIn.eq_1,@Ax.pinsIn.eq_2,@Ax.pinsR.eq_1,@Ax.pinsR.eq_2,@Ax.backO.eq_1,@Ax.backO.eq_2,@Ax.gone.eq_1,@Ax.AV.sids.eq_1,@Ax.AV.sids.eq_2,@Ax.AV.sids.eq_3,@Ax.AV.sids.eq_4,@Ax.AV.sids.eq_5,@Ax.AV.sids.eq_6,@Ax.sidsL.eq_1,@Ax.sidsL.eq_2,@Ax.AV.sidsH.eq_1,@Ax.AV.sidsH.eq_2,@Ax.AV.sidsH.eq_3,@Ax.AV.sidsH.eq_4,@Ax.AV.sidsH.eq_5,@Ax.AV.sidsH.eq_6,@Ax.sidsLH.eq_1,@Ax.sidsLH.eq_2,@Ax.Blk.renB.eq_1,@Ax.idxOf.eq_1,@Ax.EndsXO.eq_1,@Ax.endIds.eq_1,@Ax.reachE.eq_1,@Ax.reachE.eq_2,@Ax.reachE.eq_3,@Ax.idsAt.eq_1,@Ax.idsAtL.eq_1,@Ax.idsAtL.eq_2,@Ax.walkI.eq_1,@Ax.walkI.eq_2,@Ax.matchE.eq_1,@Ax.matchE.eq_2,@Ax.matchE.eq_3,@Ax.aopF.eq_1,@Ax.foot.eq_1,@Ax.footA.eq_1,@Ax.keepIn.eq_1,@Ax.keepIn.eq_2,@Ax.dropIn.eq_1,@Ax.dropIn.eq_2,@Ax.bids.eq_1,@Ax.bids.eq_2,@Ax.heldB.eq_1,@Ax.memOk.eq_1,@Ax.clearOf.eq_1⟩
open Ax
attribute [go_sem] evDO evTO zig zlw zcn yqr Blk.isGone Blk.idsB Blk.sidsB Blk.ren EndsO
attribute [go_sem ↓] yhk
end Go.Proofs.Ytebacgkeoefnkaa
namespace Go.Proofs.Ytebacgkeoefnkaa
open Ax
abbrev KM := List (List UInt8 × Int)
def kvP (p : List UInt8 × Int) : AV × AV := (.str p.1,.w (.int .i64 p.2))
def kvA (m : KM) : List (AV × AV) := m.map kvP
def ukv : AV × AV → List UInt8 × Int
 | (.str k,.w (.int _ n)) => (k,n)
 | _ => ([],0)
theorem yjh (m : KM) : (kvA m).map ukv = m := by
 unfold kvA; rw [List.map_map]; exact List.map_id _
def ixK (k : List UInt8) : KM → Nat → Option (Nat × Int)
 | [],_ => none
 | p :: r,i => if k = p.1 then some (i,p.2) else ixK k r (i + 1)
def gtK (m : KM) (k : List UInt8) : Option Int := (ixK k m 0).map Prod.snd
def ptK (m : KM) (k : List UInt8) (v : Int) : KM :=
 match ixK k m 0 with
 | some p => m.set p.1 (k,v)
 | none => m ++ [(k,v)]
def mpI (o : Option (Nat × Int)) : Option (Nat × AV) := o.map fun p => (p.1,.w (.int .i64 p.2))
theorem zaz (k : List UInt8) : ∀ (m : KM) (i : Nat),zbq ty 9 (.str k) (kvA m) i = (True,mpI (ixK k m i))
 | [],i => rfl
 | p :: r,i => by
  have h := zaz k r (i + 1)
  have he : eqV ty 4 9 (.str k) (.str p.1) = (True,decide (k = p.1)) := rfl
  show zbq ty 9 (.str k) (kvP p :: kvA r) i = _
  unfold zbq
  simp only [kvP,he,h,ixK]
  by_cases hk : k = p.1
  ·subst hk; simp [mpI]
  ·simp [hk,mpI]
theorem yay (m : KM) (k : List UInt8) (v : Int) : putM (kvA m) (.str k) (.w (.int .i64 v)) (mpI (ixK k m 0)) = kvA (ptK m k v) := by
 unfold ptK
 cases ixK k m 0 with
 | none => simp [mpI,putM,kvA,kvP]
 | some p => simp [mpI,putM,kvA,kvP,List.map_set]
theorem zqb (k : List UInt8) : ∀ (m : KM) (i : Nat),ixK k m (i + 1) = (ixK k m i).map fun p => (p.1 + 1,p.2)
 | [],i => rfl
 | p :: r,i => by
  unfold ixK
  split
  ·rfl
  ·exact zqb k r (i + 1)
theorem zmk (p : List UInt8 × Int) (m : KM) (k : List UInt8) : gtK (p :: m) k = if k = p.1 then some p.2 else gtK m k := by
 unfold gtK
 rw [ixK]
 split
 ·rfl
 ·rw [zqb]; cases ixK k m 0 <;> rfl
theorem ypq (p : List UInt8 × Int) (m : KM) (k : List UInt8) (v : Int) : ptK (p :: m) k v = if k = p.1 then (k,v) :: m else p :: ptK m k v := by
 unfold ptK
 by_cases h : k = p.1
 ·rw [ixK,if_pos h,if_pos h]; rfl
 ·rw [ixK,if_neg h,if_neg h,zqb]
  cases ixK k m 0 <;> rfl
theorem znt : ∀ (m : KM) (k k' : List UInt8) (v : Int),gtK (ptK m k v) k' = if k' = k then some v else gtK m k'
 | [],k,k',v => by
  show gtK [(k,v)] k' = _
  rw [zmk]; try rfl
 | p :: m,k,k',v => by
  rw [ypq]
  by_cases h : k = p.1
  ·rw [if_pos h,zmk,zmk]
   by_cases h2 : k' = k
   ·simp [h2]
   ·simp only [if_neg h2]
    rw [if_neg (by rw [← h]; exact h2)]
  ·rw [if_neg h,zmk,zmk,znt m k k' v]
   by_cases h2 : k' = k
   ·subst h2; simp [h]
   ·simp only [if_neg h2]
def stK (b : Int) (m : KM) (r : Rec) : KM :=
 if r.k = true then (match gtK m r.key with
  | some a => if a < offI b r.d then ptK m r.key (offI b r.d) else m
  | none => ptK m r.key (offI b r.d)) else m
def stKB (m : KM) (x : Bat) : KM := x.rs.foldl (stK x.b) m
def zda (l : List Bat) : KM := l.foldl stKB []
end Go.Proofs.Ytebacgkeoefnkaa
namespace Go.Proofs.Ytebacgkeoefnkaa
open Ax
theorem zck (p : Nat × Int) : mpI (some p) = some (p.1,.w (.int .i64 p.2)) := rfl
theorem zdh : mpI none = none := rfl
theorem yth {m : KM} {k : List UInt8} {p : Nat × Int} (v : Int) (h : ixK k m 0 = some p) : (kvA m).set p.1 (.str k,.w (.int .i64 v)) = kvA (ptK m k v) := by
 have := yay m k v
 rw [h] at this; exact this
theorem ypk {m : KM} {k : List UInt8} (v : Int) (h : ixK k m 0 = none) : kvA m ++ [(.str k,.w (.int .i64 v))] = kvA (ptK m k v) := by
 have := yay m k v
 rw [h] at this; exact this
def zky : zas
 | [.sg 6 xs f],[] => ⟨xs.length ≤ 1000000 ∧ isBs xs,.rf 0 0 0 0,[.o (.mp (kvA (zda (xs.map ubat))))]⟩
 | _,_ => zcj
section
set_option maxRecDepth 100000
set_option maxHeartbeats 4000000 in
theorem zof : zbg Try.prog 20 zky := by
 refine zbb (S := noS) (T := ty) mixed ty_ok zel Try.func20 (c := Try.f20.body.getD .skip) (by kernel_rfl) (by kernel_rfl) (fun xs pins hp _ => ?_)
 unfold zky at hp ⊢
 split at hp
 ·rename_i xs f _
  obtain ⟨hL,es,rfl,he⟩ := hp
  simp only [List.length_map] at hL
  refine ⟨by simp,?_⟩
  have hlp : (es.map bvp).length = es.length := by simp
  rw [zcl]
  obtain ⟨A,hA⟩ : ∃ A,kvA (zda (es.map Prod.fst)) = A := ⟨_,rfl⟩
  rw [hA]
  unfold Try.f20
  simp only [go_sem,zaa,↓reduceIte,ty,noS,hlp]
  refine zef ⟨fun m σ => ∃ (i : Nat) (M : KM),m = es.length - i ∧ i ≤ es.length ∧ zda (es.map Prod.fst) = ((es.drop i).map Prod.fst).foldl stKB M ∧
    σ = ⟨[.sg 6 (es.map bvp) f,.junk,.junk,.rf 4 0 0 0,.junk,.junk,.junk,.junk,.junk,.junk,.junk,.junk,.sg 6 (es.map bvp) f,.w (.int .i64 es.length),.w (.int .i64 i),.junk,.junk,.junk,.junk,.junk,.junk,.junk,.junk,.junk,.junk,.junk,.junk,.junk,.junk,.junk,.junk,.junk,.junk,.junk,.junk,.junk,.junk,.junk,.junk,.junk,.junk,.junk,.junk,.junk,.junk,.junk,.junk,.junk,.junk,.junk,.junk,.junk,.junk,.junk],[(4,.o (.mp (kvA M)))],5⟩,?_,?_⟩
  ·refine ⟨_,_,zaf [0,1,2,3,12] rfl rfl rfl ?_ ?_,0,[],rfl,by omega,by rw [List.drop_zero]; rfl,rfl⟩
   ·simp only [ssT,zai,zaj,setSlot,gOf,AV.ren,renL,Blk.ren,Ax.look,Ax.put,reduceCtorEq,↓reduceIte,Nat.reduceEqDiff,Nat.reduceLT,Nat.reduceAdd,List.length_append,List.length_cons,List.length_nil,Option.some.injEq]; try simp
   ·simp only [ssT,zai,zaj,setSlot,gOf,AV.ren,renL,Blk.ren,Ax.look,Ax.put,reduceCtorEq,↓reduceIte,Nat.reduceEqDiff,Nat.reduceLT,Nat.reduceAdd,List.length_append,List.length_cons,List.length_nil,Option.some.injEq]; try rfl
  ·rintro m σ ⟨i,M,rfl,hi,hinv,rfl⟩
   have e1 : ((i : Int) + 1 + 9223372036854775808) % 18446744073709551616 - 9223372036854775808 = ((i + 1 : Nat) : Int) := by omega
   by_cases hil : i < es.length
   ·have d3 : decide ((i : Int) < es.length) = true := decide_eq_true (by omega)
    have hs1 := zhk es i hil
    have m1 := he es[i] (List.getElem_mem hil)
    have hdr : es.drop i = es[i] :: es.drop (i + 1) := List.drop_eq_getElem_cons hil
    obtain ⟨P,hP⟩ : ∃ P,es[i] = P := ⟨_,rfl⟩
    rw [hP] at hs1 m1 hdr
    rw [hdr] at hinv
    obtain ⟨⟨b,c,p,e,s,rs⟩,f'⟩ := P
    have hs1 : slot (es.map bvp) i = .agg [.w (.int .i64 b),.w (.int .i64 c),.w (.int .i64 p),.w (.int .i64 e),.w (.int .i64 s),.sg 6 (rs.map rv) f'] := hs1
    simp only at m1
    have hlr : (rs.map rv).length = rs.length := by simp
    have hinv : zda (es.map Prod.fst) = ((es.drop (i + 1)).map Prod.fst).foldl stKB (rs.foldl (stK b) M) := hinv
    simp only [go_sem,zaa,↓reduceIte,ty,noS,hlp,d3,hs1,hlr,Int.toNat_natCast]
    repeat (refine And.intro (by omega) ?_)
    refine zef ⟨fun m σ => ∃ (k : Nat) (M : KM),m = rs.length - k ∧ k ≤ rs.length ∧ zda (es.map Prod.fst) = ((es.drop (i + 1)).map Prod.fst).foldl stKB ((rs.drop k).foldl (stK b) M) ∧
      σ = ⟨[.sg 6 (es.map bvp) f,.junk,.junk,.rf 4 0 0 0,.junk,.rf 5 6 0 0,.junk,.junk,.junk,.junk,.junk,.junk,.sg 6 (es.map bvp) f,.w (.int .i64 es.length),.w (.int .i64 i),.junk,.junk,.junk,.junk,.sg 6 (rs.map rv) f',.w (.int .i64 rs.length),.w (.int .i64 k),.junk,.junk,.junk,.junk,.junk,.junk,.junk,.junk,.junk,.junk,.junk,.junk,.junk,.junk,.junk,.junk,.junk,.junk,.junk,.junk,.junk,.junk,.junk,.junk,.junk,.junk,.junk,.junk,.junk,.junk,.junk,.junk],
       [(4,.o (.mp (kvA M))),(5,.g 6 [.agg [.w (.int .i64 b),.w (.int .i64 c),.w (.int .i64 p),.w (.int .i64 e),.w (.int .i64 s),.sg 6 (rs.map rv) f']])],6⟩,?_,?_⟩
    ·refine ⟨_,_,zaf [0,1,2,3,4,29] rfl rfl rfl ?_ ?_,0,M,rfl,by omega,by rw [List.drop_zero]; exact hinv,rfl⟩
     ·simp only [ssT,zai,zaj,setSlot,gOf,AV.ren,renL,Blk.ren,Ax.look,Ax.put,reduceCtorEq,↓reduceIte,Nat.reduceEqDiff,Nat.reduceLT,Nat.reduceAdd,List.length_append,List.length_cons,List.length_nil,Option.some.injEq]; try simp
     ·simp only [ssT,zai,zaj,setSlot,gOf,AV.ren,renL,Blk.ren,Ax.look,Ax.put,reduceCtorEq,↓reduceIte,Nat.reduceEqDiff,Nat.reduceLT,Nat.reduceAdd,List.length_append,List.length_cons,List.length_nil,Option.some.injEq]
    ·rintro m σ ⟨k,M,rfl,hk,hinv,rfl⟩
     by_cases hkl : k < rs.length
     ·have e2 : ((k : Int) + 1 + 9223372036854775808) % 18446744073709551616 - 9223372036854775808 = ((k + 1 : Nat) : Int) := by omega
      have d4 : decide ((k : Int) < rs.length) = true := decide_eq_true (by omega)
      have hs2 := zdj rv rs k hkl
      have hdk : rs.drop k = rs[k] :: rs.drop (k + 1) := List.drop_eq_getElem_cons hkl
      obtain ⟨R,hR⟩ : ∃ R,rs[k] = R := ⟨_,rfl⟩
      rw [hR] at hs2 hdk
      rw [hdk,List.foldl_cons] at hinv
      obtain ⟨d,t,kd,key,dd,val⟩ := R
      simp only [rv] at hs2
      have hof : (b + d + 9223372036854775808) % 18446744073709551616 - 9223372036854775808 = offI b d := rfl
      obtain ⟨O,hO⟩ : ∃ O,offI b d = O := ⟨_,rfl⟩
      rw [hO] at hof
      cases kd with
      | false =>
       have hst : stK b M ⟨d,t,false,key,dd,val⟩ = M := rfl
       rw [hst] at hinv
       simp only [go_sem,zaa,↓reduceIte,ty,noS,hlp,hlr,d4,hs2,hof,e2,Int.toNat_natCast,Bool.not_false]
       repeat (refine And.intro (by omega) ?_)
       refine ⟨rs.length - (k + 1),_,by omega,zaf [0,1,2,3,4,5] rfl rfl rfl ?_ ?_,k + 1,M,rfl,by omega,hinv,rfl⟩
       ·simp only [ssT,zai,zaj,setSlot,gOf,AV.ren,renL,Blk.ren,Ax.look,Ax.put,reduceCtorEq,↓reduceIte,Nat.reduceEqDiff,Nat.reduceLT,Nat.reduceAdd,List.length_append,List.length_cons,List.length_nil,Option.some.injEq]
       ·simp only [ssT,zai,zaj,setSlot,gOf,AV.ren,renL,Blk.ren,Ax.look,Ax.put,reduceCtorEq,↓reduceIte,Nat.reduceEqDiff,Nat.reduceLT,Nat.reduceAdd,List.length_append,List.length_cons,List.length_nil,Option.some.injEq]
      | true =>
       rcases hx : ixK key M 0 with _ | ⟨j,a⟩
       ·have hst : stK b M ⟨d,t,true,key,dd,val⟩ = ptK M key O := by unfold stK gtK; rw [if_pos rfl]; simp only [hx,hO]; rfl
        rw [hst] at hinv
        have hpk := ypk O hx
        simp only [go_sem,zaa,↓reduceIte,ty,noS,hlp,hlr,d4,hs2,hof,e2,zaz,hx,zdh,hpk,Int.toNat_natCast,Bool.not_true,Bool.not_false]
        repeat (refine And.intro (by omega) ?_)
        refine ⟨rs.length - (k + 1),_,by omega,zaf [0,1,2,3,4,5] rfl rfl rfl ?_ ?_,k + 1,_,rfl,by omega,hinv,rfl⟩
        ·simp only [ssT,zai,zaj,setSlot,gOf,AV.ren,renL,Blk.ren,Ax.look,Ax.put,reduceCtorEq,↓reduceIte,Nat.reduceEqDiff,Nat.reduceLT,Nat.reduceAdd,List.length_append,List.length_cons,List.length_nil,Option.some.injEq]
        ·simp only [ssT,zai,zaj,setSlot,gOf,AV.ren,renL,Blk.ren,Ax.look,Ax.put,reduceCtorEq,↓reduceIte,Nat.reduceEqDiff,Nat.reduceLT,Nat.reduceAdd,List.length_append,List.length_cons,List.length_nil,Option.some.injEq]
       ·have hpk := yth O hx
        by_cases c2 : a < O
        ·have d6 : decide (a < O) = true := decide_eq_true c2
         have hst : stK b M ⟨d,t,true,key,dd,val⟩ = ptK M key O := by unfold stK gtK; rw [if_pos rfl]; simp only [hx,hO,Option.map_some,if_pos c2]
         rw [hst] at hinv
         simp only [go_sem,zaa,↓reduceIte,ty,noS,hlp,hlr,d4,d6,hs2,hof,e2,zaz,hx,zck,hpk,Int.toNat_natCast,Bool.not_true,Bool.not_false]
         repeat (refine And.intro (by omega) ?_)
         refine ⟨rs.length - (k + 1),_,by omega,zaf [0,1,2,3,4,5] rfl rfl rfl ?_ ?_,k + 1,_,rfl,by omega,hinv,rfl⟩
         ·simp only [ssT,zai,zaj,setSlot,gOf,AV.ren,renL,Blk.ren,Ax.look,Ax.put,reduceCtorEq,↓reduceIte,Nat.reduceEqDiff,Nat.reduceLT,Nat.reduceAdd,List.length_append,List.length_cons,List.length_nil,Option.some.injEq]
         ·simp only [ssT,zai,zaj,setSlot,gOf,AV.ren,renL,Blk.ren,Ax.look,Ax.put,reduceCtorEq,↓reduceIte,Nat.reduceEqDiff,Nat.reduceLT,Nat.reduceAdd,List.length_append,List.length_cons,List.length_nil,Option.some.injEq]
        ·have d6 : decide (a < O) = false := decide_eq_false c2
         have hst : stK b M ⟨d,t,true,key,dd,val⟩ = M := by unfold stK gtK; rw [if_pos rfl]; simp only [hx,hO,Option.map_some,if_neg c2]
         rw [hst] at hinv
         simp only [go_sem,zaa,↓reduceIte,ty,noS,hlp,hlr,d4,d6,hs2,hof,e2,zaz,hx,zck,hpk,Int.toNat_natCast,Bool.not_true,Bool.not_false]
         repeat (refine And.intro (by omega) ?_)
         refine ⟨rs.length - (k + 1),_,by omega,zaf [0,1,2,3,4,5] rfl rfl rfl ?_ ?_,k + 1,M,rfl,by omega,hinv,rfl⟩
         ·simp only [ssT,zai,zaj,setSlot,gOf,AV.ren,renL,Blk.ren,Ax.look,Ax.put,reduceCtorEq,↓reduceIte,Nat.reduceEqDiff,Nat.reduceLT,Nat.reduceAdd,List.length_append,List.length_cons,List.length_nil,Option.some.injEq]
         ·simp only [ssT,zai,zaj,setSlot,gOf,AV.ren,renL,Blk.ren,Ax.look,Ax.put,reduceCtorEq,↓reduceIte,Nat.reduceEqDiff,Nat.reduceLT,Nat.reduceAdd,List.length_append,List.length_cons,List.length_nil,Option.some.injEq]
     ·have d4 : decide ((k : Int) < rs.length) = false := decide_eq_false (by omega)
      have hdk : rs.drop k = [] := List.drop_eq_nil_of_le (by omega)
      rw [hdk,List.foldl_nil] at hinv
      simp only [go_sem,zaa,↓reduceIte,ty,noS,hlp,hlr,d4,e1]
      refine ⟨es.length - (i + 1),_,by omega,zaf [0,1,2,3,4] rfl rfl rfl ?_ ?_,i + 1,M,rfl,by omega,hinv,rfl⟩
      ·simp only [ssT,zai,zaj,setSlot,gOf,AV.ren,renL,Blk.ren,Ax.look,Ax.put,reduceCtorEq,↓reduceIte,Nat.reduceEqDiff,Nat.reduceLT,Nat.reduceAdd,List.length_append,List.length_cons,List.length_nil,Option.some.injEq]
      ·simp only [ssT,zai,zaj,setSlot,gOf,AV.ren,renL,Blk.ren,Ax.look,Ax.put,reduceCtorEq,↓reduceIte,Nat.reduceEqDiff,Nat.reduceLT,Nat.reduceAdd,List.length_append,List.length_cons,List.length_nil,Option.some.injEq]
   ·have d3 : decide ((i : Int) < es.length) = false := decide_eq_false (by omega)
    have hdr : es.drop i = [] := List.drop_eq_nil_of_le (by omega)
    rw [hdr] at hinv
    have hv2 : zda (es.map Prod.fst) = M := hinv
    rw [hv2] at hA
    simp only [go_sem,zaa,↓reduceIte,ty,noS,hlp,d3,hA]
 ·exact hp.elim
end
end Go.Proofs.Ytebacgkeoefnkaa
namespace Go.Proofs.Ytebacgkeoefnkaa
namespace Ax
theorem zde {S : zah} {T : zab} {ops : List Oper} {pl : List (Nat × Nat)} {Q Q' : List AV → Heap → Prop} (hq : ∀ sl H,Q sl H → Q' sl H) : ∀ (l : List Oper) (nm : Nat) (acc : List (Nat × List Nat)) (sl : List AV) (H : Heap),zep S T ops pl nm acc l sl H Q → zep S T ops pl nm acc l sl H Q'
 | [],nm,acc,sl,H,h => ⟨h.1,hq sl H h.2⟩
 | o :: r,nm,acc,sl,H,h => by
  unfold zep at h ⊢
  cases hg : o.guard with
  | none => simp only [hg] at h ⊢; exact ⟨h.1,zde hq r _ _ _ _ h.2⟩
  | some g =>
   obtain ⟨j,want⟩ := g
   simp only [hg] at h ⊢
   cases hs : guardSlot ops j with
   | none => simp [hs] at h
   | some d =>
    simp only [hs] at h ⊢
    split at h
    ·exact ⟨fun e => ⟨(h.1 e).1,zde hq r _ _ _ _ (h.1 e).2⟩,fun e => zde hq r _ _ _ _ (h.2 e)⟩
    ·exact zde hq r _ _ _ _ h
    ·exact h.elim
theorem zhd {S SO : zah} {T : zab} {ops : List Oper} {Q Q' : List AV → Heap → Prop} (hq : ∀ sl H,Q sl H → Q' sl H) : ∀ (k nm : Nat) (l : List Oper) (sl : List AV) (H : Heap),zjf S SO T ops k nm l sl H Q → zjf S SO T ops k nm l sl H Q'
 | k,nm,[],sl,H,h => by unfold zjf at h ⊢; exact hq _ _ h
 | 0,nm,o :: r,sl,H,h => by unfold zjf at h ⊢; exact ⟨h.1,h.2.1,zcv hq _ _ _ _ h.2.2⟩
 | k + 1,nm,o :: r,sl,H,h => by unfold zjf at h ⊢; exact ⟨h.1,h.2.1,zhd hq k _ r _ _ h.2.2⟩
theorem yap {T : zab} {sl : List AV} {op : Op} {K K' : AV → Prop} (hk : ∀ x,K x → K' x) (h : zjy T sl op K) : zjy T sl op K' := by
 unfold zjy at h ⊢
 repeat' split at h
 all_goals first
  | exact h.elim
  | simp_all
theorem zwn {T : zab} {sl : List AV} {op : Op} {H : Heap} {K K' : AV → Heap → Prop} (hk : ∀ x H,K x H → K' x H) (h : zig T sl op H K) : zig T sl op H K' := by
 unfold zig at h ⊢
 split at h
 ·unfold zlw at h ⊢
  split at h
  ·split at h
   ·exact ⟨h.1,fun e => hk _ _ (h.2.1 e),fun j hj => hk _ _ (h.2.2 j hj)⟩
   ·exact h.elim
  ·exact h.elim
 ·exact yap (fun x hx => hk x H hx) h
theorem znz {S : zah} {T : zab} {ops : List Oper} {Q Q' : List AV → Heap → Prop} (hq : ∀ sl H,Q sl H → Q' sl H) : ∀ (k : List Bool) (nm : Nat) (l : List Oper) (sl : List AV) (H : Heap),zhu S T ops k nm l sl H Q → zhu S T ops k nm l sl H Q'
 | k,nm,[],sl,H,h => by unfold zhu at h ⊢; exact hq _ _ h
 | [],nm,o :: r,sl,H,h => by unfold zhu at h ⊢; exact zcv hq _ _ _ _ h
 | true :: k,nm,o :: r,sl,H,h => by unfold zhu at h ⊢; exact ⟨h.1,zwn (fun x H hx => znz hq k _ r _ _ hx) h.2⟩
 | false :: k,nm,o :: r,sl,H,h => by unfold zhu at h ⊢; exact ⟨h.1,h.2.1,znz hq k _ r _ _ h.2.2⟩
theorem zyn {l : List Nat} {sl : List AV} {H : Heap} {K K' : List AV → Heap → Prop} (hk : ∀ sl H,K sl H → K' sl H) (h : frzK l sl H K) : frzK l sl H K' := ⟨h.1,hk _ _ h.2⟩
theorem yoi {S SO : zah} {T : zab} {pl : zlp} : ∀ (c : Code) (Q Q' : Exit → ASt → Prop) (σ : ASt),(∀ e σ,Q e σ → Q' e σ) → awpO S SO T pl c Q σ → awpO S SO T pl c Q' σ := by
 intro c
 induction c with
 | skip => intro Q Q' σ hq h; exact hq _ _ h
 | label l => intro Q Q' σ hq h; exact hq _ _ h
 | region id ops draw =>
  intro Q Q' σ hq h
  simp only [awpO] at h ⊢
  split at h
  ·exact zcv (fun _ _ h => hq _ _ h) _ _ _ _ h
  ·exact zde (fun _ _ h => hq _ _ h) _ _ _ _ _ h
  ·exact zyn (fun _ _ h => zcv (fun _ _ h => hq _ _ h) _ _ _ _ h) h
  ·exact zyn (fun _ _ h => zhd (fun _ _ h => hq _ _ h) _ _ _ _ _ h) h
  ·exact znz (fun _ _ h => hq _ _ h) _ _ _ _ _ h
  ·obtain ⟨sl',H',hw,h⟩ := h
   exact ⟨sl',H',hw,zde (fun _ _ h => hq _ _ h) _ _ _ _ _ h⟩
  ·obtain ⟨sl',H',hw,h⟩ := h
   exact ⟨sl',H',hw,zde (fun _ _ h => zhd (fun _ _ h => hq _ _ h) _ _ _ _ _ h) _ _ _ _ _ h⟩
  ·obtain ⟨sl',H',hw,h⟩ := h
   exact ⟨sl',H',hw,zde (fun _ _ h => ⟨zhd (fun _ _ h => hq _ _ h) _ _ _ _ _ h.1,zhd (fun _ _ h => hq _ _ h) _ _ _ _ _ h.2⟩) _ _ _ _ _ h⟩
  ·obtain ⟨sl',H',hw,h⟩ := h
   exact ⟨sl',H',hw,zcv (fun _ _ h => hq _ _ h) _ _ _ _ h⟩
 | seq a b iha ihb =>
  intro Q Q' σ hq h
  refine iha _ _ σ ?_ h
  intro e σ h
  cases e with
  | normal => exact ihb _ _ σ hq h
  | _ => exact hq _ _ h
 | cond c a b iha ihb =>
  intro Q Q' σ hq h
  simp only [awpO] at h ⊢
  split at h
  ·exact ⟨fun e => iha _ _ σ hq (h.1 e),fun e => ihb _ _ σ hq (h.2 e)⟩
  ·exact h.elim
 | block id c ih =>
  intro Q Q' σ hq h
  refine ih _ _ σ ?_ h
  intro e σ h
  cases e with
  | exit id' =>
   simp only [zgk] at h ⊢
   split at h
   ·rename_i he; rw [if_pos he]; exact hq _ _ h
   ·rename_i he; rw [if_neg he]; exact hq _ _ h
  | _ => exact hq _ _ h
 | loop c ih =>
  intro Q Q' σ hq h
  obtain ⟨I,hst,hr⟩ := h
  refine ⟨I,hst,fun n σ' hI => ih _ _ σ' ?_ (hr n σ' hI)⟩
  intro e σ h
  cases e with
  | normal => exact h
  | _ =>
   obtain ⟨σ2,hw,h⟩ := h
   exact ⟨σ2,hw,hq _ _ h⟩
 | exit id => intro Q Q' σ hq h; exact hq _ _ h
 | ret => intro Q Q' σ hq h; exact hq _ _ h
 | _ => intro Q Q' σ hq h; exact h.elim
def unK (A : ASt → Prop) (Q : Exit → ASt → Prop) (e : Exit) (σ : ASt) : Prop := match e with
 | .normal => A σ
 | e => Q e σ
def unr (f : (Exit → ASt → Prop) → ASt → Prop) (Q : Exit → ASt → Prop) : Nat → ASt → Prop
 | 0,_ => False
 | n + 1,σ => f (unK (unr f Q n) Q) σ
theorem yon {f : (Exit → ASt → Prop) → ASt → Prop} {Q : Exit → ASt → Prop} (mono : ∀ (Q Q' : Exit → ASt → Prop) (σ : ASt),(∀ e σ,Q e σ → Q' e σ) → f Q σ → f Q' σ) (n : Nat) (σ : ASt) (h : unr f Q n σ) : yjb f Q σ := by
 refine ⟨fun k τ => unr f Q k τ,⟨n,σ,Weak.refl _,h⟩,?_⟩
 intro k τ hI
 cases k with
 | zero => exact hI.elim
 | succ k =>
  refine mono _ _ τ ?_ hI
  intro e σ1 h1
  cases e with
  | normal => exact ⟨k,σ1,Nat.lt_succ_self k,Weak.refl _,h1⟩
  | _ => exact ⟨σ1,Weak.refl _,h1⟩
theorem yrp {S SO : zah} {T : zab} {pl : zlp} {c : Code} {Q : Exit → ASt → Prop} {σ : ASt} (n : Nat) (h : unr (awpO S SO T pl c) Q n σ) : awpO S SO T pl (.loop c) Q σ :=
 zfd (yon (fun Q Q' σ hq h => yoi _ Q Q' σ hq h) n σ h)
theorem ysy {S SO : zah} {T : zab} {pl : zlp} {c : Code} {Q : Exit → ASt → Prop} {σ : ASt} {n : Nat} : unr (awpO S SO T pl c) Q (n + 1) σ = awpO S SO T pl c (unK (unr (awpO S SO T pl c) Q n) Q) σ := rfl
theorem ygo {A : ASt → Prop} {Q : Exit → ASt → Prop} {σ : ASt} : unK A Q .normal σ = A σ := rfl
theorem ypd {A : ASt → Prop} {Q : Exit → ASt → Prop} {σ : ASt} {id : Nat} : unK A Q (.exit id) σ = Q (.exit id) σ := rfl
theorem ysz {A : ASt → Prop} {Q : Exit → ASt → Prop} {σ : ASt} : unK A Q .ret σ = Q .ret σ := rfl
end Ax
end Go.Proofs.Ytebacgkeoefnkaa
namespace Go.Proofs.Ytebacgkeoefnkaa
open Ax
structure VR where
 k : List UInt8
 v : List UInt8
 o : Int
 t : Int
deriving DecidableEq
def vrA (r : VR) : AV := .agg [.str r.k,.str r.v,.w (.int .i64 r.o),.w (.int .i64 r.t)]
def uvr : AV → VR
 | .agg [.str k,.str v,.w (.int _ o),.w (.int _ t)] => ⟨k,v,o,t⟩
 | _ => ⟨[],[],0,0⟩
theorem zdi (es : List VR) : (es.map vrA).map uvr = es := by
 rw [List.map_map]; exact List.map_id _
theorem zdm : ∀ (G : List VR),closedL (G.map vrA) = true
 | [] => rfl
 | x :: r => by simp only [List.map_cons,closedL,vrA,AV.closed,Bool.true_and]; exact zdm r
theorem zdb (g : Nat → Nat) : ∀ (G : List VR),renL g (G.map vrA) = G.map vrA
 | [] => rfl
 | x :: r => by simp only [List.map_cons,renL,zdb g r]; rfl
theorem zih : ∀ (es : List VR) (i : Nat) (h : i < es.length),slot (es.map vrA) i = vrA es[i]
 | p :: ps,0,h => rfl
 | p :: ps,i + 1,h => by
  simp only [List.map_cons,slot,List.getElem_cons_succ]
  exact zih ps i (by simpa using h)
theorem zeq {T : zab} {sl : List AV} {H : Heap} {nx : Nat} {v : Value} {q : Prop} (i : Nat) (h : slot sl i = .w v) : yaj T [.tmp i] [] ⟨q,.w v,[]⟩ .ret ⟨sl,H,nx⟩ := by
 refine ⟨_,Weak.refl _,?_⟩
 simp only [Ax.Ends,Ax.rvals,EndsX,rone,h,AV.ids,idsL,newIds,upTo,nodup,pinsOf,List.nil_append,AV.ren,and_self]
end Go.Proofs.Ytebacgkeoefnkaa
namespace Go.Proofs.Ytebacgkeoefnkaa
open Ax
def kvR (r : VR) : AV × AV := (.str r.k,vrA r)
def kvM (m : List VR) : List (AV × AV) := m.map kvR
def ixR (k : List UInt8) : List VR → Nat → Option (Nat × VR)
 | [],_ => none
 | p :: r,i => if k = p.k then some (i,p) else ixR k r (i + 1)
def ptR (m : List VR) (r : VR) : List VR :=
 match ixR r.k m 0 with
 | some p => m.set p.1 r
 | none => m ++ [r]
def ctR (m : List VR) (k : List UInt8) : List VR :=
 match ixR k m 0 with
 | some p => m.eraseIdx p.1
 | none => m
def mpR (o : Option (Nat × VR)) : Option (Nat × AV) := o.map fun p => (p.1,vrA p.2)
theorem zmp (k : List UInt8) : ∀ (m : List VR) (i : Nat),zbq ty 9 (.str k) (kvM m) i = (True,mpR (ixR k m i))
 | [],i => rfl
 | p :: r,i => by
  have h := zmp k r (i + 1)
  have he : eqV ty 4 9 (.str k) (.str p.k) = (True,decide (k = p.k)) := rfl
  show zbq ty 9 (.str k) (kvR p :: kvM r) i = _
  unfold zbq
  simp only [kvR,he,h,ixR]
  by_cases hk : k = p.k
  ·subst hk; simp [mpR]
  ·simp [hk,mpR]
theorem ytk (m : List VR) (r : VR) : putM (kvM m) (.str r.k) (vrA r) (mpR (ixR r.k m 0)) = kvM (ptR m r) := by
 unfold ptR
 cases ixR r.k m 0 with
 | none => simp [mpR,putM,kvM,kvR]
 | some p => simp [mpR,putM,kvM,kvR,List.map_set]
theorem zvm {α β : Type} (f : α → β) : ∀ (l : List α) (i : Nat),(l.map f).eraseIdx i = (l.eraseIdx i).map f
 | [],i => by simp
 | x :: r,0 => rfl
 | x :: r,i + 1 => by simp [zvm f r i]
theorem cut_kvM (m : List VR) (k : List UInt8) : cutM (kvM m) (mpR (ixR k m 0)) = kvM (ctR m k) := by
 unfold ctR
 cases ixR k m 0 with
 | none => rfl
 | some p => simp [mpR,cutM,kvM,zvm]
theorem zqa (k : List UInt8) : ∀ (m : List VR) (i : Nat),ixR k m (i + 1) = (ixR k m i).map fun p => (p.1 + 1,p.2)
 | [],i => rfl
 | p :: r,i => by
  unfold ixR
  split
  ·rfl
  ·exact zqa k r (i + 1)
theorem ypp (p : VR) (m : List VR) (r : VR) : ptR (p :: m) r = if r.k = p.k then r :: m else p :: ptR m r := by
 unfold ptR
 by_cases h : r.k = p.k
 ·rw [ixR,if_pos h,if_pos h]; rfl
 ·rw [ixR,if_neg h,if_neg h,zqa]
  cases ixR r.k m 0 <;> rfl
theorem yqv (p : VR) (m : List VR) (k : List UInt8) : ctR (p :: m) k = if k = p.k then m else p :: ctR m k := by
 unfold ctR
 by_cases h : k = p.k
 ·rw [ixR,if_pos h,if_pos h]; rfl
 ·rw [ixR,if_neg h,if_neg h,zqa]
  cases ixR k m 0 <;> rfl
def zuw (m : List VR) : Prop := (m.map fun r => r.k).Nodup
theorem zvq : ∀ (m : List VR) (k : List UInt8),zuw m → (zuw (ctR m k) ∧ ∀ x,x ∈ ctR m k ↔ x ∈ m ∧ x.k ≠ k)
 | [],k,h => ⟨h,fun x => by simp [ctR,ixR]⟩
 | p :: m,k,h => by
  have h2 := List.nodup_cons.1 (show ((p :: m).map fun r => r.k).Nodup from h)
  obtain ⟨i1,i2⟩ := zvq m k h2.2
  rw [yqv]
  by_cases e : k = p.k
  ·rw [if_pos e]
   refine ⟨h2.2,fun x => ⟨fun hx => ⟨List.mem_cons_of_mem _ hx,fun e2 => h2.1 ?_⟩,fun hx => ?_⟩⟩
   ·exact List.mem_map.2 ⟨x,hx,by rw [e2,e]⟩
   ·rcases List.mem_cons.1 hx.1 with rfl | h3
    ·exact (hx.2 e.symm).elim
    ·exact h3
  ·rw [if_neg e]
   refine ⟨List.nodup_cons.2 ⟨fun hm => ?_,i1⟩,fun x => ?_⟩
   ·obtain ⟨x,hx,e2⟩ := List.mem_map.1 hm
    exact h2.1 (List.mem_map.2 ⟨x,((i2 x).1 hx).1,e2⟩)
   ·rw [List.mem_cons,List.mem_cons,i2 x]
    constructor
    ·rintro (rfl | ⟨h3,h4⟩)
     ·exact ⟨.inl rfl,fun e2 => e e2.symm⟩
     ·exact ⟨.inr h3,h4⟩
    ·rintro ⟨rfl | h3,h4⟩
     ·exact .inl rfl
     ·exact .inr ⟨h3,h4⟩
theorem zuu : ∀ (m : List VR) (r : VR),zuw m → (zuw (ptR m r) ∧ ∀ x,x ∈ ptR m r ↔ (x ∈ m ∧ x.k ≠ r.k) ∨ x = r)
 | [],r,h => ⟨by unfold zuw; simp [ptR,ixR],fun x => by simp [ptR,ixR]⟩
 | p :: m,r,h => by
  have h2 := List.nodup_cons.1 (show ((p :: m).map fun r => r.k).Nodup from h)
  obtain ⟨i1,i2⟩ := zuu m r h2.2
  rw [ypp]
  by_cases e : r.k = p.k
  ·rw [if_pos e]
   have hnm : ∀ x ∈ m,x.k ≠ r.k := fun x hx e2 => h2.1 (List.mem_map.2 ⟨x,hx,by rw [e2,e]⟩)
   refine ⟨List.nodup_cons.2 ⟨fun hm => ?_,h2.2⟩,fun x => ?_⟩
   ·obtain ⟨x,hx,e2⟩ := List.mem_map.1 hm
    exact hnm x hx e2
   ·rw [List.mem_cons,List.mem_cons]
    constructor
    ·rintro (rfl | h3)
     ·exact .inr rfl
     ·exact .inl ⟨.inr h3,hnm x h3⟩
    ·rintro (⟨rfl | h3,h4⟩ | rfl)
     ·exact (h4 e.symm).elim
     ·exact .inr h3
     ·exact .inl rfl
  ·rw [if_neg e]
   refine ⟨List.nodup_cons.2 ⟨fun hm => ?_,i1⟩,fun x => ?_⟩
   ·obtain ⟨x,hx,e2⟩ := List.mem_map.1 hm
    rcases (i2 x).1 hx with ⟨h3,_⟩ | rfl
    ·exact h2.1 (List.mem_map.2 ⟨x,h3,e2⟩)
    ·exact e e2
   ·rw [List.mem_cons,List.mem_cons,i2 x]
    constructor
    ·rintro (rfl | ⟨h3,h4⟩ | rfl)
     ·exact .inl ⟨.inl rfl,fun e2 => e e2.symm⟩
     ·exact .inl ⟨.inr h3,h4⟩
     ·exact .inr rfl
    ·rintro (⟨rfl | h3,h4⟩ | rfl)
     ·exact .inl rfl
     ·exact .inr (.inl ⟨h3,h4⟩)
     ·exact .inr (.inr rfl)
def rowR (b : Int) (r : Rec) : VR := ⟨r.key,r.val,offI b r.d,r.t⟩
def mdK (b : Int) (m : List VR) (r : Rec) : List VR := if r.k = true then (if r.dd = true then ctR m r.key else ptR m (rowR b r)) else m
def spK (m : KM) (r : Rec) : KM := if r.k = true then ptK m r.key ((gtK m r.key).getD 0 + 1) else m
def zib (k : List UInt8) (r : Rec) : Bool := r.k && decide (r.key = k)
theorem zpe (k : List UInt8) : ∀ (rs : List Rec) (m : KM),(gtK (rs.foldl spK m) k).getD 0 = (gtK m k).getD 0 + ((rs.countP (zib k) : Nat) : Int)
 | [],m => by simp
 | r :: rs,m => by
  rw [List.foldl_cons,zpe k rs (spK m r),List.countP_cons]
  unfold spK zib
  cases hk : r.k with
  | false => simp
  | true =>
   simp only [if_true,Bool.true_and,decide_eq_true_eq]
   rw [znt]
   by_cases e : k = r.key
   ·rw [if_pos e,if_pos e.symm,← e]
    simp; omega
   ·rw [if_neg e,if_neg (fun h => e h.symm)]
    simp
def chgS : zas
 | [.agg [.w (.int .i64 b),.w (.int .i64 c),.w (.int .i64 p),.w (.int .i64 e),.w (.int .i64 s),.sg 6 xs f]],[] => ⟨xs.length ≤ 1000000 ∧ ∃ rs : List Rec,xs = rs.map rv,
   .tup [.rf 0 0 0 0,.rf 1 0 0 0],[.o (.mp (kvM ((xs.map rrec).foldl (mdK b) []))),.o (.mp (kvA ((xs.map rrec).foldl spK [])))]⟩
 | _,_ => zcj
section
set_option maxRecDepth 100000
set_option maxHeartbeats 8000000
theorem ynk : zbg Try.prog 30 chgS := by
 refine zbb (S := noS) (T := ty) mixed ty_ok zel Try.func30 (c := Try.f30.body.getD .skip) (by kernel_rfl) (by kernel_rfl) (fun xs pins hp _ => ?_)
 unfold chgS at hp ⊢
 split at hp
 ·rename_i b c p e s xs f _
  obtain ⟨hL,rs,rfl⟩ := hp
  rw [List.length_map] at hL
  have hlp : (rs.map rv).length = rs.length := by simp
  rw [zam]
  obtain ⟨A,hA⟩ : ∃ A,kvM (rs.foldl (mdK b) []) = A := ⟨_,rfl⟩
  obtain ⟨B,hB⟩ : ∃ B,kvA (rs.foldl spK []) = B := ⟨_,rfl⟩
  rw [hA,hB]
  refine ⟨by simp,?_⟩
  unfold Try.f30
  simp only [go_sem,zaa,↓reduceIte,ty,noS,hlp]
  refine zef ⟨fun m σ => ∃ (i : Nat),m = rs.length - i ∧ i ≤ rs.length ∧
    σ = ⟨[.agg [.w (.int .i64 b),.w (.int .i64 c),.w (.int .i64 p),.w (.int .i64 e),.w (.int .i64 s),.sg 6 (rs.map rv) f],.rf 4 6 0 0,.junk,.junk,.rf 5 0 0 0,.rf 6 0 0 0,.junk,.junk,.junk,.junk,.junk,.sg 6 (rs.map rv) f,.w (.int .i64 rs.length),.w (.int .i64 i),.junk,.junk,.junk,.junk,.junk,.junk,.junk,.junk,.junk,.junk,.junk,.junk,.junk,.junk,.junk,.junk,.junk,.junk,.junk,.junk,.junk,.junk,.junk,.junk,.junk,.junk,.junk,.junk,.junk,.junk,.junk,.junk,.junk,.junk],
     [(4,.g 6 [.agg [.w (.int .i64 b),.w (.int .i64 c),.w (.int .i64 p),.w (.int .i64 e),.w (.int .i64 s),.sg 6 (rs.map rv) f]]),(5,.o (.mp (kvM ((rs.take i).foldl (mdK b) [])))),(6,.o (.mp (kvA ((rs.take i).foldl spK []))))],7⟩,?_,?_⟩
  ·refine ⟨_,_,zaf [0,1,2,3,4,28,36] rfl rfl rfl ?_ ?_,0,rfl,by omega,rfl⟩
   ·simp only [ssT,zai,zaj,setSlot,gOf,AV.ren,renL,Blk.ren,Ax.look,Ax.put,reduceCtorEq,↓reduceIte,Nat.reduceEqDiff,Nat.reduceLT,Nat.reduceAdd,List.length_append,List.length_cons,List.length_nil,Option.some.injEq]; try simp
   ·simp only [ssT,zai,zaj,setSlot,gOf,AV.ren,renL,Blk.ren,Ax.look,Ax.put,reduceCtorEq,↓reduceIte,Nat.reduceEqDiff,Nat.reduceLT,Nat.reduceAdd,List.length_append,List.length_cons,List.length_nil,Option.some.injEq]; try simp [kvM,kvA]
  ·rintro m σ ⟨i,rfl,hi,rfl⟩
   have e1 : ((i : Int) + 1 + 9223372036854775808) % 18446744073709551616 - 9223372036854775808 = ((i + 1 : Nat) : Int) := by omega
   by_cases hil : i < rs.length
   ·have d3 : decide ((i : Int) < rs.length) = true := decide_eq_true (by omega)
    have hs2 := zdj rv rs i hil
    have hdk : rs.take (i + 1) = rs.take i ++ [rs[i]] := List.take_succ_eq_append_getElem hil
    have hcn := fun k => zpe k (rs.take i) []
    have hcl : ∀ k,(rs.take i).countP (zib k) ≤ i := fun k => Nat.le_trans List.countP_le_length (by rw [List.length_take]; omega)
    obtain ⟨R,hR⟩ : ∃ R,rs[i] = R := ⟨_,rfl⟩
    rw [hR] at hs2 hdk
    have hm1 : (rs.take (i + 1)).foldl (mdK b) [] = mdK b ((rs.take i).foldl (mdK b) []) R := by rw [hdk,List.foldl_append]; rfl
    have hm2 : (rs.take (i + 1)).foldl spK [] = spK ((rs.take i).foldl spK []) R := by rw [hdk,List.foldl_append]; rfl
    obtain ⟨M1,hM1⟩ : ∃ M1,(rs.take i).foldl (mdK b) [] = M1 := ⟨_,rfl⟩
    obtain ⟨M2,hM2⟩ : ∃ M2,(rs.take i).foldl spK [] = M2 := ⟨_,rfl⟩
    rw [hM1] at hm1
    rw [hM2] at hm2
    simp only [hM2] at hcn
    rw [hM1,hM2]
    obtain ⟨d,t,kd,key,dd,val⟩ := R
    simp only [rv] at hs2
    have hof : (b + d + 9223372036854775808) % 18446744073709551616 - 9223372036854775808 = offI b d := rfl
    have hcv := hcn key
    have hck := hcl key
    obtain ⟨O,hO⟩ : ∃ O,offI b d = O := ⟨_,rfl⟩
    rw [hO] at hof
    cases kd with
    | false =>
     have hm1 : (rs.take (i + 1)).foldl (mdK b) [] = M1 := hm1
     have hm2 : (rs.take (i + 1)).foldl spK [] = M2 := hm2
     simp only [go_sem,zaa,↓reduceIte,ty,noS,hlp,d3,hs2,e1,Int.toNat_natCast,Bool.not_false]
     repeat (refine And.intro (by omega) ?_)
     refine ⟨rs.length - (i + 1),_,by omega,zaf [0,1,2,3,4,5,6] rfl rfl rfl ?_ ?_,i + 1,rfl,by omega,rfl⟩
     ·simp only [ssT,zai,zaj,setSlot,gOf,AV.ren,renL,Blk.ren,Ax.look,Ax.put,reduceCtorEq,↓reduceIte,Nat.reduceEqDiff,Nat.reduceLT,Nat.reduceAdd,List.length_append,List.length_cons,List.length_nil,Option.some.injEq]
     ·simp only [ssT,zai,zaj,setSlot,gOf,AV.ren,renL,Blk.ren,Ax.look,Ax.put,reduceCtorEq,↓reduceIte,Nat.reduceEqDiff,Nat.reduceLT,Nat.reduceAdd,List.length_append,List.length_cons,List.length_nil,Option.some.injEq,hm1,hm2]
    | true =>
     have hm2 : (rs.take (i + 1)).foldl spK [] = ptK M2 key ((gtK M2 key).getD 0 + 1) := hm2
     obtain ⟨C,hC⟩ : ∃ C,(gtK M2 key).getD 0 = C := ⟨_,rfl⟩
     rw [hC] at hcv hm2
     have hg0 : (gtK ([] : KM) key).getD 0 = 0 := rfl
     rw [hg0] at hcv
     have e3 : (C + 1 + 9223372036854775808) % 18446744073709551616 - 9223372036854775808 = C + 1 := by omega
     have hfx : ∀ x : Option (Nat × Int),ixK key M2 0 = x → (x.map Prod.snd).getD 0 = C := fun x hx => by rw [← hC]; unfold gtK; rw [hx]
     have hpp : putM (kvA M2) (.str key) (.w (.int .i64 (C + 1))) (mpI (ixK key M2 0)) = kvA (ptK M2 key (C + 1)) := yay M2 key (C + 1)
     have hcc := cut_kvM M1 key
     have hpr := ytk M1 ⟨key,val,O,t⟩
     simp only [vrA] at hpr
     cases dd with
     | true =>
      have hm1 : (rs.take (i + 1)).foldl (mdK b) [] = ctR M1 key := hm1
      cases hx : ixK key M2 0 with
      | none =>
       have hc0 : 0 = C := hfx _ hx
       subst hc0
       rw [hx,zdh] at hpp
       have e3 : ((0 : Int) + 1 + 9223372036854775808) % 18446744073709551616 - 9223372036854775808 = 0 + 1 := by omega
       simp only [go_sem,zaa,↓reduceIte,ty,noS,hlp,d3,hs2,e1,e3,hof,zaz,zmp,hx,zdh,hpp,hcc,Int.toNat_natCast,Bool.not_true,Bool.not_false]
       repeat (refine And.intro (by omega) ?_)
       refine ⟨rs.length - (i + 1),_,by omega,zaf [0,1,2,3,4,5,6] rfl rfl rfl ?_ ?_,i + 1,rfl,by omega,rfl⟩
       ·simp only [ssT,zai,zaj,setSlot,gOf,AV.ren,renL,Blk.ren,Ax.look,Ax.put,reduceCtorEq,↓reduceIte,Nat.reduceEqDiff,Nat.reduceLT,Nat.reduceAdd,List.length_append,List.length_cons,List.length_nil,Option.some.injEq]
       ·simp only [ssT,zai,zaj,setSlot,gOf,AV.ren,renL,Blk.ren,Ax.look,Ax.put,reduceCtorEq,↓reduceIte,Nat.reduceEqDiff,Nat.reduceLT,Nat.reduceAdd,List.length_append,List.length_cons,List.length_nil,Option.some.injEq,hm1,hm2]
        exact ⟨congrArg (fun z => Blk.o (.mp z)) hcc,congrArg (fun z => Blk.o (.mp z)) (hpp.trans (by first | rfl | (rw [← hC]; rfl)))⟩
      | some q =>
       have hc0 : q.2 = C := hfx _ hx
       rw [hx,zck] at hpp
       simp only [go_sem,zaa,↓reduceIte,ty,noS,hlp,d3,hs2,e1,e3,hof,zaz,zmp,hx,zck,hc0,hpp,hcc,Int.toNat_natCast,Bool.not_true,Bool.not_false]
       repeat (refine And.intro (by omega) ?_)
       refine ⟨rs.length - (i + 1),_,by omega,zaf [0,1,2,3,4,5,6] rfl rfl rfl ?_ ?_,i + 1,rfl,by omega,rfl⟩
       ·simp only [ssT,zai,zaj,setSlot,gOf,AV.ren,renL,Blk.ren,Ax.look,Ax.put,reduceCtorEq,↓reduceIte,Nat.reduceEqDiff,Nat.reduceLT,Nat.reduceAdd,List.length_append,List.length_cons,List.length_nil,Option.some.injEq]
       ·simp only [ssT,zai,zaj,setSlot,gOf,AV.ren,renL,Blk.ren,Ax.look,Ax.put,reduceCtorEq,↓reduceIte,Nat.reduceEqDiff,Nat.reduceLT,Nat.reduceAdd,List.length_append,List.length_cons,List.length_nil,Option.some.injEq,hm1,hm2]
        exact ⟨congrArg (fun z => Blk.o (.mp z)) hcc,congrArg (fun z => Blk.o (.mp z)) (hpp.trans (by first | rfl | (rw [← hC]; rfl)))⟩
     | false =>
      have hm1 : (rs.take (i + 1)).foldl (mdK b) [] = ptR M1 ⟨key,val,O,t⟩ := by rw [hm1]; unfold mdK rowR; rw [if_pos rfl,if_neg (by simp),hO]
      cases hx : ixK key M2 0 with
      | none =>
       have hc0 : 0 = C := hfx _ hx
       subst hc0
       rw [hx,zdh] at hpp
       have e3 : ((0 : Int) + 1 + 9223372036854775808) % 18446744073709551616 - 9223372036854775808 = 0 + 1 := by omega
       simp only [go_sem,zaa,↓reduceIte,ty,noS,hlp,d3,hs2,e1,e3,hof,zaz,zmp,hx,zdh,hpp,hpr,Int.toNat_natCast,Bool.not_true,Bool.not_false]
       repeat (refine And.intro (by omega) ?_)
       refine ⟨rs.length - (i + 1),_,by omega,zaf [0,1,2,3,4,5,6] rfl rfl rfl ?_ ?_,i + 1,rfl,by omega,rfl⟩
       ·simp only [ssT,zai,zaj,setSlot,gOf,AV.ren,renL,Blk.ren,Ax.look,Ax.put,reduceCtorEq,↓reduceIte,Nat.reduceEqDiff,Nat.reduceLT,Nat.reduceAdd,List.length_append,List.length_cons,List.length_nil,Option.some.injEq]
       ·simp only [ssT,zai,zaj,setSlot,gOf,AV.ren,renL,Blk.ren,Ax.look,Ax.put,reduceCtorEq,↓reduceIte,Nat.reduceEqDiff,Nat.reduceLT,Nat.reduceAdd,List.length_append,List.length_cons,List.length_nil,Option.some.injEq,hm1,hm2]
        exact ⟨congrArg (fun z => Blk.o (.mp z)) hpr,congrArg (fun z => Blk.o (.mp z)) (hpp.trans (by first | rfl | (rw [← hC]; rfl)))⟩
      | some q =>
       have hc0 : q.2 = C := hfx _ hx
       rw [hx,zck] at hpp
       simp only [go_sem,zaa,↓reduceIte,ty,noS,hlp,d3,hs2,e1,e3,hof,zaz,zmp,hx,zck,hc0,hpp,hpr,Int.toNat_natCast,Bool.not_true,Bool.not_false]
       repeat (refine And.intro (by omega) ?_)
       refine ⟨rs.length - (i + 1),_,by omega,zaf [0,1,2,3,4,5,6] rfl rfl rfl ?_ ?_,i + 1,rfl,by omega,rfl⟩
       ·simp only [ssT,zai,zaj,setSlot,gOf,AV.ren,renL,Blk.ren,Ax.look,Ax.put,reduceCtorEq,↓reduceIte,Nat.reduceEqDiff,Nat.reduceLT,Nat.reduceAdd,List.length_append,List.length_cons,List.length_nil,Option.some.injEq]
       ·simp only [ssT,zai,zaj,setSlot,gOf,AV.ren,renL,Blk.ren,Ax.look,Ax.put,reduceCtorEq,↓reduceIte,Nat.reduceEqDiff,Nat.reduceLT,Nat.reduceAdd,List.length_append,List.length_cons,List.length_nil,Option.some.injEq,hm1,hm2]
        exact ⟨congrArg (fun z => Blk.o (.mp z)) hpr,congrArg (fun z => Blk.o (.mp z)) (hpp.trans (by first | rfl | (rw [← hC]; rfl)))⟩
   ·have d3 : decide ((i : Int) < rs.length) = false := decide_eq_false (by omega)
    have htk : rs.take i = rs := List.take_of_length_le (by omega)
    rw [htk,hA,hB]
    simp only [go_sem,zaa,↓reduceIte,ty,noS,hlp,d3]
 ·exact hp.elim
end
end Go.Proofs.Ytebacgkeoefnkaa
namespace Go.Proofs.Ytebacgkeoefnkaa
open Ax
def rE (n : Int) (r : VR) : Int := if 64 < r.k.length ∨ 512 < r.v.length then 5 else if r.o < 0 ∨ n ≤ r.o ∨ r.t < 0 ∨ 1099511627776 < r.t then 11 else 0
def badV (n : Int) : List VR → Int
 | [] => 0
 | r :: rs => if rE n r = 0 then badV n rs else rE n r
def risV : List VR → Bool
 | [] => true
 | [_] => true
 | a :: b :: rs => Op.bytesLess a.k b.k && risV (b :: rs)
def chV (n : Int) (l : List VR) : Int := if n < 0 ∨ 4611686018427387903 < n ∨ 4096 < l.length then 11 else if badV n l = 0 then (if risV l = true then 0 else 16) else badV n l
theorem ydo (n : Int) (k v : List UInt8) (o t : Int) :
  (decide ((64 : Int) < k.length) = true ∧ rE n ⟨k,v,o,t⟩ = 5) ∨
  (decide ((64 : Int) < k.length) = false ∧ decide ((512 : Int) < v.length) = true ∧ rE n ⟨k,v,o,t⟩ = 5) ∨
  (decide ((64 : Int) < k.length) = false ∧ decide ((512 : Int) < v.length) = false ∧ decide (o < 0) = true ∧ rE n ⟨k,v,o,t⟩ = 11) ∨
  (decide ((64 : Int) < k.length) = false ∧ decide ((512 : Int) < v.length) = false ∧ decide (o < 0) = false ∧ decide (n ≤ o) = true ∧ rE n ⟨k,v,o,t⟩ = 11) ∨
  (decide ((64 : Int) < k.length) = false ∧ decide ((512 : Int) < v.length) = false ∧ decide (o < 0) = false ∧ decide (n ≤ o) = false ∧ decide (t < 0) = true ∧ rE n ⟨k,v,o,t⟩ = 11) ∨
  (decide ((64 : Int) < k.length) = false ∧ decide ((512 : Int) < v.length) = false ∧ decide (o < 0) = false ∧ decide (n ≤ o) = false ∧ decide (t < 0) = false ∧ decide (1099511627776 < t) = true ∧ rE n ⟨k,v,o,t⟩ = 11) ∨
  (decide ((64 : Int) < k.length) = false ∧ decide ((512 : Int) < v.length) = false ∧ decide (o < 0) = false ∧ decide (n ≤ o) = false ∧ decide (t < 0) = false ∧ decide (1099511627776 < t) = false ∧ rE n ⟨k,v,o,t⟩ = 0) := by
 unfold rE
 simp only [decide_eq_true_eq,decide_eq_false_iff_not]
 by_cases h1 : 64 < k.length
 ·exact .inl ⟨by omega,if_pos (.inl h1)⟩
 by_cases h2 : 512 < v.length
 ·exact .inr (.inl ⟨by omega,by omega,if_pos (.inr h2)⟩)
 rw [if_neg (by omega)]
 by_cases h3 : o < 0
 ·exact .inr (.inr (.inl ⟨by omega,by omega,by omega,if_pos (by omega)⟩))
 by_cases h4 : n ≤ o
 ·exact .inr (.inr (.inr (.inl ⟨by omega,by omega,by omega,by omega,if_pos (by omega)⟩)))
 by_cases h5 : t < 0
 ·exact .inr (.inr (.inr (.inr (.inl ⟨by omega,by omega,by omega,by omega,by omega,if_pos (by omega)⟩))))
 by_cases h6 : 1099511627776 < t
 ·exact .inr (.inr (.inr (.inr (.inr (.inl ⟨by omega,by omega,by omega,by omega,by omega,by omega,if_pos (by omega)⟩)))))
 ·exact .inr (.inr (.inr (.inr (.inr (.inr ⟨by omega,by omega,by omega,by omega,by omega,by omega,if_neg (by omega)⟩)))))
theorem ytr (n : Int) (L : Nat) :
  (decide (n < 0) = true ∧ (n < 0 ∨ 4611686018427387903 < n ∨ 4096 < L)) ∨
  (decide (n < 0) = false ∧ decide (4611686018427387903 < n) = true ∧ (n < 0 ∨ 4611686018427387903 < n ∨ 4096 < L)) ∨
  (decide (n < 0) = false ∧ decide (4611686018427387903 < n) = false ∧ decide ((4096 : Int) < L) = true ∧ (n < 0 ∨ 4611686018427387903 < n ∨ 4096 < L)) ∨
  (decide (n < 0) = false ∧ decide (4611686018427387903 < n) = false ∧ decide ((4096 : Int) < L) = false ∧ ¬ (n < 0 ∨ 4611686018427387903 < n ∨ 4096 < L)) := by
 simp only [decide_eq_true_eq,decide_eq_false_iff_not]
 omega
theorem yof (n : Int) (l : List VR) (i : Nat) (h : i < l.length) : badV n (l.drop i) = if rE n l[i] = 0 then badV n (l.drop (i + 1)) else rE n l[i] := by
 rw [List.drop_eq_getElem_cons h]; rfl
theorem yjx (l : List VR) (i : Nat) (h : i + 1 < l.length) : risV (l.drop i) = (Op.bytesLess l[i].k l[i + 1].k && risV (l.drop (i + 1))) := by
 rw [List.drop_eq_getElem_cons (show i < l.length by omega),List.drop_eq_getElem_cons h]; rfl
theorem yjw (l : List VR) (i : Nat) (h : l.length ≤ i + 1) : risV (l.drop i) = true := by
 have hl : (l.drop i).length ≤ 1 := by rw [List.length_drop]; omega
 match h2 : l.drop i,hl with
 | [],_ => rfl
 | [_],_ => rfl
def ych : zas
 | [.agg [.w (.int .i64 n),.sg 4 xs f]],[] => ⟨xs.length ≤ 9223372036854775807 ∧ ∃ l : List VR,xs = l.map vrA,.w (.int .i64 (chV n (xs.map uvr))),[]⟩
 | _,_ => zcj
def zfu : Plan := fun id => match id with
 | 14 => some []
 | _ => none
section
set_option maxRecDepth 100000
set_option maxHeartbeats 16000000 in
theorem yim : zbg Try.prog 16 ych := by
 refine zmo (S := noS) (T := ty) (pl := zfu) mixed ty_ok zel Try.func16 (c := Try.f16.body.getD .skip) (by kernel_rfl) (by kernel_rfl) (fun xs pins hp _ => ?_)
 unfold ych at hp ⊢
 split at hp
 · rename_i n xs f _
   obtain ⟨hL,l,rfl⟩ := hp
   rw [List.length_map] at hL
   have hle : (l.map vrA).length = l.length := by simp
   rw [zdi]
   refine ⟨by simp,?_⟩
   unfold Try.f16
   rcases ytr n l.length with D | D | D | D
   · have hch : chV n l = 11 := if_pos D.2
     rw [hch]
     simp only [go_sem,zad,↓reduceIte,lcT,ty,noS,zfu,hle,D.1]
     exact zeq 2 rfl
   · have hch : chV n l = 11 := if_pos D.2.2
     rw [hch]
     simp only [go_sem,zad,↓reduceIte,lcT,ty,noS,zfu,hle,D.1,D.2.1]
     exact zeq 2 rfl
   · have hch : chV n l = 11 := if_pos D.2.2.2
     rw [hch]
     simp only [go_sem,zad,↓reduceIte,lcT,ty,noS,zfu,hle,D.1,D.2.1,D.2.2.1]
     exact zeq 2 rfl
   obtain ⟨D1,D2,D3,D4⟩ := D
   have hch : chV n l = if badV n l = 0 then (if risV l = true then 0 else 16) else badV n l := if_neg D4
   simp only [go_sem,zad,↓reduceIte,lcT,ty,noS,zfu,hle,D1,D2,D3]
   refine zea ⟨fun m σ => ∃ i : Nat,m = l.length - i ∧ i ≤ l.length ∧ badV n (l.drop i) = badV n l ∧
     σ = ⟨[.agg [.w (.int .i64 n),.sg 4 (l.map vrA) f],.rf 4 2 0 0,.w (.int .i64 0),.junk,.junk,.junk,.junk,.junk,.junk,.junk,.junk,.junk,.junk,.junk,.junk,.junk,.junk,.junk,.junk,.junk,.junk,.sg 4 (l.map vrA) f,.w (.int .i64 l.length),.w (.int .i64 i),.junk,.junk,.junk,.junk,.junk,.junk,.junk,.junk,.junk,.junk,.junk,.junk,.junk,.junk,.junk,.junk,.junk,.junk,.junk,.junk,.junk,.junk,.junk,.junk,.junk,.junk,.junk,.junk,.junk,.junk,.junk,.junk,.junk,.junk,.junk,.junk,.junk,.junk,.junk,.junk,.junk,.junk,.junk,.junk,.junk,.junk,.junk,.junk,.junk,.junk,.junk,.junk,.junk,.junk,.junk],[(4,.g 2 [.agg [.w (.int .i64 n),.sg 4 (l.map vrA) f]])],5⟩,?_,?_⟩
   · refine ⟨_,_,zaf [0,1,2,3,4] rfl rfl rfl ?_ ?_,0,rfl,by omega,rfl,rfl⟩
     · simp only [ssT,zai,zaj,setSlot,gOf,AV.ren,renL,Blk.ren,Ax.look,Ax.put,reduceCtorEq,↓reduceIte,Nat.reduceEqDiff,Nat.reduceLT,Nat.reduceAdd,List.length_append,List.length_cons,List.length_nil,Option.some.injEq]; try simp
     · simp only [ssT,zai,zaj,setSlot,gOf,AV.ren,renL,Blk.ren,Ax.look,Ax.put,reduceCtorEq,↓reduceIte,Nat.reduceEqDiff,Nat.reduceLT,Nat.reduceAdd,List.length_append,List.length_cons,List.length_nil,Option.some.injEq]; try simp
   · rintro m σ ⟨i,rfl,hi,hb,rfl⟩
     by_cases hil : i < l.length
     · have d2 : decide ((i : Int) < l.length) = true := decide_eq_true (by omega)
       have e1 : ((i : Int) + 1 + 9223372036854775808) % 18446744073709551616 - 9223372036854775808 = ((i + 1 : Nat) : Int) := by omega
       have hs1 := zih l i hil
       have hd := yof n l i hil
       rw [hb] at hd
       obtain ⟨r,hr⟩ : ∃ r,l[i] = r := ⟨_,rfl⟩
       rw [hr] at hs1 hd
       obtain ⟨k,v,o,t⟩ := r
       have hs1 : slot (l.map vrA) i = .agg [.str k,.str v,.w (.int .i64 o),.w (.int .i64 t)] := hs1
       by_cases hz : rE n ⟨k,v,o,t⟩ = 0
       · rw [if_pos hz] at hd
         rcases ydo n k v o t with D | D | D | D | D | D | D
         · exact absurd (D.2 ▸ hz) (by decide)
         · exact absurd (D.2.2 ▸ hz) (by decide)
         · exact absurd (D.2.2.2 ▸ hz) (by decide)
         · exact absurd (D.2.2.2.2 ▸ hz) (by decide)
         · exact absurd (D.2.2.2.2.2 ▸ hz) (by decide)
         · exact absurd (D.2.2.2.2.2.2 ▸ hz) (by decide)
         obtain ⟨f1,f2,f3,f4,f5,f6,_⟩ := D
         simp only [go_sem,zad,↓reduceIte,lcT,ty,noS,zfu,hle,d2,hs1,e1,f1,f2,f3,f4,f5,f6,Int.toNat_natCast]
         repeat (refine And.intro (by omega) ?_)
         refine ⟨l.length - (i + 1),_,by omega,zaf [0,1,2,3,4] rfl rfl rfl ?_ ?_,i + 1,rfl,by omega,hd.symm,rfl⟩
         · simp only [ssT,zai,zaj,setSlot,gOf,AV.ren,renL,Blk.ren,Ax.look,Ax.put,reduceCtorEq,↓reduceIte,Nat.reduceEqDiff,Nat.reduceLT,Nat.reduceAdd,List.length_append,List.length_cons,List.length_nil,Option.some.injEq]; try simp
         · simp only [ssT,zai,zaj,setSlot,gOf,AV.ren,renL,Blk.ren,Ax.look,Ax.put,reduceCtorEq,↓reduceIte,Nat.reduceEqDiff,Nat.reduceLT,Nat.reduceAdd,List.length_append,List.length_cons,List.length_nil,Option.some.injEq]; try simp
       · rw [if_neg hz] at hd
         have hb0 : ¬ badV n l = 0 := by rw [hd]; exact hz
         rw [hch,if_neg hb0,hd]
         rcases ydo n k v o t with D | D | D | D | D | D | D
         all_goals first
           | exact absurd D.2.2.2.2.2.2 hz
           | (simp only [go_sem,zad,↓reduceIte,lcT,ty,noS,zfu,hle,d2,hs1,D,Int.toNat_natCast]
              repeat (refine And.intro (by omega) ?_)
              refine ⟨_,Weak.refl _,?_⟩
              simp only [go_sem,zad,↓reduceIte,lcT,ty,noS,zfu]
              exact zeq 2 rfl)
     · have d2 : decide ((i : Int) < l.length) = false := decide_eq_false (by omega)
       have hb0 : badV n l = 0 := by rw [← hb,List.drop_of_length_le (by omega)]; rfl
       rw [hch,if_pos hb0]
       simp only [go_sem,zad,↓reduceIte,lcT,ty,noS,zfu,hle,d2]
       refine ⟨_,Weak.refl _,?_⟩
       simp only [go_sem,zad,↓reduceIte,lcT,ty,noS,zfu,hle]
       refine zea ⟨fun m σ => ∃ i : Nat,m = l.length - i ∧ 1 ≤ i ∧ (i ≤ l.length ∨ i = 1) ∧ risV (l.drop (i - 1)) = risV l ∧
         σ = ⟨[.agg [.w (.int .i64 n),.sg 4 (l.map vrA) f],.rf 4 2 0 0,.w (.int .i64 0),.junk,.junk,.w (.int .i64 i),.junk,.junk,.junk,.junk,.junk,.junk,.junk,.junk,.junk,.junk,.junk,.junk,.junk,.junk,.junk,.junk,.junk,.junk,.junk,.junk,.junk,.junk,.junk,.junk,.junk,.junk,.junk,.junk,.junk,.junk,.junk,.junk,.junk,.junk,.junk,.junk,.junk,.junk,.junk,.junk,.junk,.junk,.junk,.junk,.junk,.junk,.junk,.junk,.junk,.junk,.junk,.junk,.junk,.junk,.junk,.junk,.junk,.junk,.junk,.junk,.junk,.junk,.junk,.junk,.junk,.junk,.junk,.junk,.junk,.junk,.junk,.junk,.junk],[(4,.g 2 [.agg [.w (.int .i64 n),.sg 4 (l.map vrA) f]])],5⟩,?_,?_⟩
       · refine ⟨_,_,zaf [0,1,2,3,4] rfl rfl rfl ?_ ?_,1,rfl,by omega,by omega,rfl,rfl⟩
         · simp only [ssT,zai,zaj,setSlot,gOf,AV.ren,renL,Blk.ren,Ax.look,Ax.put,reduceCtorEq,↓reduceIte,Nat.reduceEqDiff,Nat.reduceLT,Nat.reduceAdd,List.length_append,List.length_cons,List.length_nil,Option.some.injEq]; try simp
         · simp only [ssT,zai,zaj,setSlot,gOf,AV.ren,renL,Blk.ren,Ax.look,Ax.put,reduceCtorEq,↓reduceIte,Nat.reduceEqDiff,Nat.reduceLT,Nat.reduceAdd,List.length_append,List.length_cons,List.length_nil,Option.some.injEq]; try simp
       · rintro m σ ⟨i,rfl,hi1,hi,hb,rfl⟩
         by_cases hil : i < l.length
         · have d2 : decide ((i : Int) < l.length) = true := decide_eq_true (by omega)
           have e1 : ((i : Int) + 1 + 9223372036854775808) % 18446744073709551616 - 9223372036854775808 = ((i + 1 : Nat) : Int) := by omega
           have e2 : ((i : Int) - 1 + 9223372036854775808) % 18446744073709551616 - 9223372036854775808 = ((i - 1 : Nat) : Int) := by omega
           have hs1 := zih l i hil
           have hs2 := zih l (i - 1) (by omega)
           have hd := yjx l (i - 1) (by omega)
           rw [hb] at hd
           have hi11 : i - 1 + 1 = i := by omega
           simp only [hi11] at hd
           obtain ⟨a,ha⟩ : ∃ x,l[i] = x := ⟨_,rfl⟩
           obtain ⟨b,hb2⟩ : ∃ x,l[i - 1]'(by omega) = x := ⟨_,rfl⟩
           rw [ha] at hs1
           rw [hb2] at hs2
           rw [ha,hb2] at hd
           obtain ⟨k1,v1,o1,t1⟩ := a
           obtain ⟨k2,v2,o2,t2⟩ := b
           have hs1 : slot (l.map vrA) i = .agg [.str k1,.str v1,.w (.int .i64 o1),.w (.int .i64 t1)] := hs1
           have hs2 : slot (l.map vrA) (i - 1) = .agg [.str k2,.str v2,.w (.int .i64 o2),.w (.int .i64 t2)] := hs2
           cases hB : Op.bytesLess k2 k1 with
           | true =>
             rw [show (⟨k2,v2,o2,t2⟩ : VR).k = k2 from rfl,show (⟨k1,v1,o1,t1⟩ : VR).k = k1 from rfl,hB,Bool.true_and] at hd
             simp only [go_sem,zad,↓reduceIte,lcT,ty,noS,zfu,hle,d2,hs1,hs2,e1,e2,hB,Bool.not_true,Bool.not_false,Int.toNat_natCast]
             repeat (refine And.intro (by omega) ?_)
             refine ⟨l.length - (i + 1),_,by omega,zaf [0,1,2,3,4] rfl rfl rfl ?_ ?_,i + 1,rfl,by omega,by omega,?_,rfl⟩
             · simp only [ssT,zai,zaj,setSlot,gOf,AV.ren,renL,Blk.ren,Ax.look,Ax.put,reduceCtorEq,↓reduceIte,Nat.reduceEqDiff,Nat.reduceLT,Nat.reduceAdd,List.length_append,List.length_cons,List.length_nil,Option.some.injEq]; try simp
             · simp only [ssT,zai,zaj,setSlot,gOf,AV.ren,renL,Blk.ren,Ax.look,Ax.put,reduceCtorEq,↓reduceIte,Nat.reduceEqDiff,Nat.reduceLT,Nat.reduceAdd,List.length_append,List.length_cons,List.length_nil,Option.some.injEq]; try simp
             · show risV (l.drop i) = _
               exact hd.symm
           | false =>
             rw [show (⟨k2,v2,o2,t2⟩ : VR).k = k2 from rfl,show (⟨k1,v1,o1,t1⟩ : VR).k = k1 from rfl,hB,Bool.false_and] at hd
             rw [if_neg (by rw [hd]; simp)]
             simp only [go_sem,zad,↓reduceIte,lcT,ty,noS,zfu,hle,d2,hs1,hs2,e1,e2,hB,Bool.not_true,Bool.not_false,Int.toNat_natCast]
             repeat (refine And.intro (by omega) ?_)
             refine ⟨_,Weak.refl _,?_⟩
             simp only [go_sem,zad,↓reduceIte,lcT,ty,noS,zfu]
             exact zeq 2 rfl
         · have d2 : decide ((i : Int) < l.length) = false := decide_eq_false (by omega)
           have hr : risV l = true := by rw [← hb]; exact yjw l _ (by omega)
           rw [if_pos hr]
           simp only [go_sem,zad,↓reduceIte,lcT,ty,noS,zfu,hle,d2]
           refine ⟨_,Weak.refl _,?_⟩
           simp only [go_sem,zad,↓reduceIte,lcT,ty,noS,zfu]
           exact zeq 2 rfl
 · exact hp.elim
end
end Go.Proofs.Ytebacgkeoefnkaa
