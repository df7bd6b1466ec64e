/- What the proofs of this seat stand on; it asks nothing. -/
import Derived.Test.YtolclgkginfiaaaYa07
set_option linter.unusedSimpArgs false
set_option linter.unusedVariables false
namespace Go.Proofs.Ytolclgkginfiaaa
namespace Ax
open Go.RowKit
def FnsO (P : Program) (S : zah) : Prop := ∀ f s,S f = some s → zqj P f ∧ zdb P f s
def noO : zah := fun _ => none
theorem zhp {P : Program} : FnsO P noO := fun f s h => by cases h
def zcl (SO : zah) (T : zab) (nm : Nat) (sl : List AV) (op : Op) (H : Heap) : Out :=
 match op with
 | .call c => match c.callee with
   | .value f => match ev sl f with
     | .fn f caps => aOpen SO nm f (coes T c.argTypes.toList (evs sl c.args.toList) ++ caps) H
     | _ => bad
   | _ => bad
 | _ => bad
theorem open_sound {P : Program} {w0 : World} {E : Nat → Prop} {w : World} {loc : Loc} {H : Heap} {T : zab} {SO : zah} (hS : FnsO P SO) (he : Env w0 E w loc) (hh : HR w loc H) {nm : Nat} (hfree : ∀ id,nm ≤ id → id < nm + 8 → loc.m id = .free) {sl : List AV} {a : Act} (o : Oper)
   (hev : ∀ x,R w loc (ev sl x) (a.eval x)) (hp : (zcl SO T nm sl o.op H).p) : Sd P w0 E w loc true nm (zcl SO T nm sl o.op H) o a := by
 cases ho : o.op with
 | call c =>
   obtain ⟨callee,args,argTypes⟩ := c
   cases callee with
   | value f =>
     have hfv := hev f
     simp only [zcl,ho] at hp ⊢
     generalize ev sl f = xf at hfv hp ⊢
     split at hp
     · rename_i g caps
       cases hv : a.eval f with
       | func fn first captured =>
         rw [hv] at hfv
         cases hfv with
         | fn _ _ cs hlc hc =>
           obtain ⟨e1,e2⟩ := zwp (w := w) (loc := loc) (sl := sl) (a := a) args.toList (fun x _ => hev x)
           obtain ⟨c1,c2⟩ := zws (T := T) (w := w) (loc := loc) argTypes.toList (evs sl args.toList)
           have c2 := c2 (args.toList.map a.eval) e2
           have c3 : ∀ (j : Nat) (h : j < (coes T argTypes.toList (evs sl args.toList) ++ caps).length) (h' : j < (args.toList.map a.eval ++ cs).length),R w loc (coes T argTypes.toList (evs sl args.toList) ++ caps)[j] (args.toList.map a.eval ++ cs)[j] := by
             intro j h h'
             have hl : (coes T argTypes.toList (evs sl args.toList)).length = (args.toList.map a.eval).length := by rw [c1,e1]; simp
             by_cases hj : j < (coes T argTypes.toList (evs sl args.toList)).length
             · rw [List.getElem_append_left hj,List.getElem_append_left (by omega)]
               exact c2 j hj (by omega)
             · rw [List.getElem_append_right (by omega),List.getElem_append_right (by omega)]
               have := hc (j - (coes T argTypes.toList (evs sl args.toList)).length) (by rw [List.length_append] at h; omega) (by rw [List.length_append] at h'; omega)
               simpa only [hl] using this
           cases hsg : SO g with
           | none => simp [aOpen,hsg,bad] at hp
           | some sp =>
             obtain ⟨⟨fn,hfn,hbody,hname⟩,hsound⟩ := hS g sp hsg
             have hcall := zsm (P := P) he hh hfree (SO := SO) (fun f s h => (hS f s h).2) (f := g) (by rw [List.length_append,List.length_append,c1,e1,hlc]; simp) c3 hp
             have hrun : (execOp a.eval o).run P w = .ok (.enter g (args.toList.map a.eval ++ cs).toArray) w := by
               have h1 : fn.name ≠ "runtime.NumGoroutine" := by simpa using hname
               have hb' : fn.body ≠ none := by intro e; rw [e] at hbody; simp at hbody
               have h9 : Array.map a.eval args = (args.toList.map a.eval).toArray := by rw [← Array.toList_inj]; simp
               simp [execOp,ho,resolve,hv,Deferred.ofValue,invoke,callFunc,hfn,h1,hb',h9]
             intro next Q hn
             unfold Oper.wp
             rw [hrun]
             refine hcall.mono ?_
             rintro e w' ⟨v,loc',rfl,h1⟩
             exact hn v w' loc' h1
       | _ => rw [hv] at hfv; cases hfv
     · exact hp.elim
   | _ => simp [zcl,ho,bad] at hp
 | _ => simp [zcl,ho,bad] at hp
theorem zun {H : Heap} : ∀ (ids good : List Nat),walk H good ids = true → ∀ id ∈ ids,look H id ≠ none
 | [],_,_,id,hid => by simp at hid
 | k :: r,good,hw,id,hid => by
   simp only [walk,Bool.and_eq_true] at hw
   cases hl : look H k with
   | none => simp [hl] at hw
   | some blk =>
     simp only [hl] at hw
     rcases List.mem_cons.1 hid with rfl | hid
     · rw [hl]; simp
     · exact zun r _ hw.2 id hid
theorem zvy {SO : zah} {T : zab} {sl : List AV} {op : Op} {nm : Nat} {H : Heap} : Hnew nm H (zcl SO T nm sl op H) := by
 unfold zcl
 split
 · split
   · split
     · unfold aOpen
       split
       · rename_i f _ spec hs
         intro hp id b hl
         simp only [openOut] at hp hl
         generalize reach H 12 [] (idsL _) = ids at *
         obtain ⟨⟨hnd,hwalk,hain,hpin⟩,hsp,hb1,hb2⟩ := hp
         rcases zmr _ _ _ hl with ⟨j,hj,h1,h2⟩ | ⟨h1,h2⟩
         · rw [Nat.zero_add] at h1
           by_cases hjl : j < ids.length
           · rw [zej hjl] at h1
             left
             rw [← h1]
             exact zun ids _ hwalk _ (List.getElem_mem hjl)
           · rw [zdr (by omega)] at h1
             right; omega
         · exact .inl (by rw [h1]; simp)
       · exact hok_bad.new
     · exact hok_bad.new
   · exact hok_bad.new
 · exact hok_bad.new
def znn (S SO : zah) (T : zab) (ops : List Oper) : Nat → Nat → List Oper → List AV → Heap → (List AV → Heap → Prop) → Prop
 | _,_,[],sl,H,Q => Q sl H
 | 0,nm,o :: r,sl,H,Q => o.guard = none ∧ (zcl SO T nm sl o.op H).p ∧ aops S T ops (nm + 8) r (zaj sl o.dst (zcl SO T nm sl o.op H).x) (zcl SO T nm sl o.op H).H Q
 | k + 1,nm,o :: r,sl,H,Q => o.guard = none ∧ (aop S T nm sl o.op H).p ∧ znn S SO T ops k (nm + 8) r (zaj sl o.dst (aop S T nm sl o.op H).x) (aop S T nm sl o.op H).H Q
theorem zfm {P : Program} {w0 : World} {E : Nat → Prop} {T : zab} {S SO : zah} (hT : TOk P T) (hS : Fns P S) (hSO : FnsO P SO) {ops : Array Oper} {K : Exit → Act → World → Prop} {Q : List AV → Heap → Prop} {B : Bs} {nz : Nat}
   (hK : ∀ sl H a w loc,Base w0 B w loc → Rel' w0 E loc ⟨sl,H,nz⟩ a w → Q sl H → K .normal a w) : ∀ (k : Nat) (r : List Oper) (nm : Nat) (sl : List AV) (H : Heap) (a : Act) (w : World) (loc : Loc),nz = nm + 8 * r.length → Base w0 B w loc →
   Rel' w0 E loc ⟨sl,H,nm⟩ a w → znn S SO T ops.toList k nm r sl H Q → wpList P ops K r a w
 | k,[],nm,sl,H,a,w,loc,hz,hb,hr,h => by
   simp only [List.length_nil,Nat.mul_zero,Nat.add_zero] at hz
   subst hz
   exact wpList_nil (hK sl H a w loc hb hr (by cases k <;> exact h))
 | 0,o :: r,nm,sl,H,a,w,loc,hz,hb,hr,h => by
   have hz' : nz = nm + 8 + 8 * r.length := by simp at hz; omega
   obtain ⟨hg,hp,hrest⟩ := h
   refine wpList_step fun Kn hKn => ?_
   rw [if_pos (by simp [Region.wanted,hg])]
   have hop := open_sound (T := T) hSO hr.env hr.heap (fun id h1 _ => hr.fresh id h1) o (fun x => ev_R hr.slots x) hp
   exact hop Kn K (fun v w' loc' hpost => hKn _ _ (zda (ops := ops) hT hS hK r (nm + 8) _ _ _ w' loc' hz' (hb.post hpost) (zfs hr hpost (zvy hp) o.dst) hrest))
 | k + 1,o :: r,nm,sl,H,a,w,loc,hz,hb,hr,h => by
   have hz' : nz = nm + 8 + 8 * r.length := by simp at hz; omega
   obtain ⟨hg,hp,hrest⟩ := h
   refine wpList_step fun Kn hKn => ?_
   rw [if_pos (by simp [Region.wanted,hg])]
   have hop := zcf hT hS hr.env hr.heap (fun id h1 _ => hr.fresh id h1) o (fun x _ => ev_R hr.slots x) hp
   exact hop Kn K (fun v w' loc' hpost => hKn _ _ (zfm hT hS hSO hK k r (nm + 8) _ _ _ w' loc' hz' (hb.post hpost) (zfs hr hpost (zeo hp) o.dst) hrest))
def zgg (T : zab) (sl : List AV) (op : Op) (K : AV → Prop) : Prop :=
 match op with
 | .binOp .eql t x (.const (.slice none 0 0)) _ => match T t with
   | some ti => match ti.d with
     | .slice _ => match ev sl x with
       | .sg s xs _ => 0 < s ∧ ∀ b,(b = true → xs.length = 0) → K (.w (.bool b))
       | .sb xs _ => ∀ b,(b = true → xs.length = 0) → K (.w (.bool b))
       | .si xs _ => ∀ b,(b = true → xs.length = 0) → K (.w (.bool b))
       | _ => False
     | _ => False
   | none => False
 | .buildSlice t 0 ps => match T t with
   | some ti => match ti.d with
     | .slice e => match T e with
       | some te => ps = #[] ∧ 0 < te.size ∧ K (.sg te.size [] true)
       | none => False
     | _ => False
   | none => False
 | .call c => match c.callee with
   | .builtin .append => match c.args.toList,c.argTypes.toList with
     | [x,y],[t,u] => match T t,T u with
       | some ti,some tu => match ti.d,tu.d with
         | .slice e,.slice _ => match T e with
           | some te => match ev sl x,ev sl y with
             | .sg s [] true,.sg _ [] _ => 0 < te.size ∧ K (.sg s [] true)
             | .sg s [] true,.sb [] _ => 0 < te.size ∧ K (.sg s [] true)
             | .sg s [] true,.si [] _ => 0 < te.size ∧ K (.sg s [] true)
             | _,_ => False
           | none => False
         | _,_ => False
       | _,_ => False
     | _,_ => False
   | _ => False
 | _ => False
theorem zkw {P : Program} {t u ty e e' : TypeId} {te : TyI} (hd : P.underlying t = some (.slice e)) (hu : P.underlying u = some (.slice e')) (hty : TyR P e te) (a a' : Option Addr) (c : Nat) (w : World) :
   (Builtin.append_ #[t,u] ty #[.slice a 0 0,.slice a' 0 c]).run P w = .ok (.slice a 0 0) w := by
 have hsz := fun W => zas (P := P) hty W
 have hlc : ∀ (b : Addr) W,(loadCells b 0).run P W = .ok #[] W := fun b W => by simp [loadCells,loadCellsFrom]
 have hst : ∀ (b : Addr) W,(storeCells b []).run P W = .ok () W := fun b W => by simp [storeCells]
 unfold Builtin.append_
 cases a <;> cases a' <;> simp [run_underlying hd,run_underlying hu,hsz,Builtin.lenOf,Builtin.firstCells,hlc,hst]
theorem zup {P : Program} {w0 : World} {E : Nat → Prop} {T : zab} (hT : TOk P T) {w : World} {loc : Loc} {H : Heap} (he : Env w0 E w loc) (hh : HR w loc H) {nm : Nat} {sl : List AV} {a : Act} {op : Op} {K : AV → Prop} (hev : ∀ x,R w loc (ev sl x) (a.eval x)) (h : zgg T sl op K) :
   ∃ x v w',K x ∧ Post w0 E w loc true nm x H v w' loc ∧ ∀ o : Oper,o.op = op → (execOp a.eval o).run P w = .ok (.value v) w' := by
 unfold zgg at h
 split at h
 · rename_i t x yt
   cases ht : T t with
   | none => simp [ht] at h
   | some ti =>
     simp only [ht] at h
     split at h
     · rename_i e hd
       have hu : ∃ e,P.underlying t = some (.slice e) := by
         have := (hT t ti ht).d
         rw [hd] at this
         exact ⟨_,this⟩
       obtain ⟨e,hu⟩ := hu
       have hx := hev x
       generalize ev sl x = xv at hx h
       split at h
       · rename_i s xs f
         obtain ⟨hs,h⟩ := h
         generalize hv : a.eval x = v at hx
         cases hx with
         | sg _ _ _ ad cap cs hd hs' hc hl hx' _ =>
           refine ⟨_,.bool ad.isNone,w,h ad.isNone fun hn => ?_,Post.pure (.w _ rfl) hh he,fun o ho => ?_⟩
           · cases xs with
             | nil => rfl
             | cons y ys =>
               exfalso
               obtain rfl : ad = none := by simpa using hn
               rcases hc.lies with rfl | ⟨b,o,he,_⟩
               · have := hs' y (by simp)
                 rw [List.flatMap_cons,List.length_append,List.length_nil] at hl
                 omega
               · cases he
           · have heq : ∀ d,(Op.equalIn (d + 1) t (.slice ad xs.length cap) (.slice none 0 0)).run P w = .ok ad.isNone w := fun d => by cases ad <;> simp [Op.equalIn,run_underlying hu]
             have heq := heq 9999
             have h2 : (Op.equal t (.slice ad xs.length cap) (.slice none 0 0)).run P w = .ok ad.isNone w := heq
             simp only [execOp,ho,hv]
             simp [zbx (u := .slice ad xs.length cap) rfl (by simp),binOp,h2,Act.eval]
       · rename_i xs f
         generalize hv : a.eval x = v at hx
         cases hx with
         | sb _ _ ad cap hd hc =>
           refine ⟨_,.bool ad.isNone,w,h ad.isNone fun hn => ?_,Post.pure (.w _ rfl) hh he,fun o ho => ?_⟩
           · cases xs with
             | nil => rfl
             | cons y ys =>
               exfalso
               obtain rfl : ad = none := by simpa using hn
               rcases hc.lies with hcs | ⟨b,o,he,_⟩
               · simp at hcs
               · cases he
           · have heq : ∀ d,(Op.equalIn (d + 1) t (.slice ad xs.length cap) (.slice none 0 0)).run P w = .ok ad.isNone w := fun d => by cases ad <;> simp [Op.equalIn,run_underlying hu]
             have heq := heq 9999
             have h2 : (Op.equal t (.slice ad xs.length cap) (.slice none 0 0)).run P w = .ok ad.isNone w := heq
             simp only [execOp,ho,hv]
             simp [zbx (u := .slice ad xs.length cap) rfl (by simp),binOp,h2,Act.eval]
       · rename_i xs f
         generalize hv : a.eval x = v at hx
         cases hx with
         | si _ _ ad cap hd hc =>
           refine ⟨_,.bool ad.isNone,w,h ad.isNone fun hn => ?_,Post.pure (.w _ rfl) hh he,fun o ho => ?_⟩
           · cases xs with
             | nil => rfl
             | cons y ys =>
               exfalso
               obtain rfl : ad = none := by simpa using hn
               rcases hc.lies with hcs | ⟨b,o,he,_⟩
               · simp at hcs
               · cases he
           · have heq : ∀ d,(Op.equalIn (d + 1) t (.slice ad xs.length cap) (.slice none 0 0)).run P w = .ok ad.isNone w := fun d => by cases ad <;> simp [Op.equalIn,run_underlying hu]
             have heq := heq 9999
             have h2 : (Op.equal t (.slice ad xs.length cap) (.slice none 0 0)).run P w = .ok ad.isNone w := heq
             simp only [execOp,ho,hv]
             simp [zbx (u := .slice ad xs.length cap) rfl (by simp),binOp,h2,Act.eval]
       · exact h.elim
     · exact h.elim
 · rename_i t ps
   cases ht : T t with
   | none => simp [ht] at h
   | some ti =>
     simp only [ht] at h
     split at h
     · rename_i e hd
       have hu : P.underlying t = some (.slice e) := by
         have := (hT t ti ht).d
         rw [hd] at this
         exact this
       cases hte : T e with
       | none => simp [hte] at h
       | some te =>
         simp only [hte] at h
         obtain ⟨rfl,hs,hK⟩ := h
         have hty := hT _ te hte
         obtain ⟨z,z1,z2,z3⟩ := zbg hty w
         have hrun := zdc (P := P) (t := t) (n := 0) (pv := #[]) (cs := #[]) hu hty z1 hs (by omega) (by simp [Instr.fill])
         refine ⟨_,.slice (some ⟨w.heap.size,0,none⟩) 0 0,{ w with heap := w.heap.push (.cells #[] e) },hK,post_anon (o := .cells #[] e) he hh ⟨rfl,rfl,rfl,rfl⟩ (fun _ => .sg _ [] true _ 0 [] ⟨Nat.le_refl _,Nat.zero_le _,fun _ => rfl⟩ (by simp) ⟨.inl rfl⟩ rfl (by simp) (by simp)),fun o ho => ?_⟩
         simp [execOp,ho,hrun]
     · exact h.elim
 · rename_i c
   obtain ⟨callee,args,argTypes⟩ := c
   simp only at h
   split at h
   · split at h
     · rename_i d x t u ha hb
       cases ht : T t with
       | none => simp [ht] at h
       | some ti =>
         cases htu : T u with
         | none => simp [ht,htu] at h
         | some tu =>
           simp only [ht,htu] at h
           have hd := (hT t ti ht).d
           have hud := (hT u tu htu).d
           split at h
           · rename_i e e' hdd hdu
             rw [hdd] at hd
             rw [hdu] at hud
             have hd : P.underlying t = some (.slice e) := hd
             have hud : P.underlying u = some (.slice e') := hud
             cases hte : T e with
             | none => simp [hte] at h
             | some te =>
               simp only [hte] at h
               have hty := hT _ te hte
               have hdv := hev d
               have hxv := hev x
               generalize ev sl d = dv at hdv h
               generalize ev sl x = xv at hxv h
               split at h
               · rename_i s s' f'
                 obtain ⟨hs,hK⟩ := h
                 obtain rfl : args = #[d,x] := by rw [← Array.toList_inj]; exact ha
                 obtain rfl : argTypes = #[t,u] := by rw [← Array.toList_inj]; exact hb
                 generalize hv1 : a.eval d = v1 at hdv
                 generalize hv2 : a.eval x = v2 at hxv
                 cases hdv with
                 | sg _ _ _ ad cap cs hdm hs' hc hl hx' hh' =>
                   obtain rfl : cap = 0 := hdm.full rfl
                   cases hxv with
                   | sg _ _ _ ad2 cap2 cs2 hdm2 hs2 hc2 hl2 hx2 hh2 =>
                     refine ⟨_,.slice ad 0 0,w,hK,Post.pure (.sg _ [] true ad 0 cs hdm hs' hc hl hx' hh') hh he,fun o ho => ?_⟩
                     have h1 := zkw (P := P) (ty := o.type) hd hud hty ad ad2 cap2 w
                     simp only [execOp,ho,resolve,invoke,builtin,Sem.run_bind,Sem.run_pure,Result.andThen_ok]
                     simp [hv1,hv2,h1]
               · rename_i s f'
                 obtain ⟨hs,hK⟩ := h
                 obtain rfl : args = #[d,x] := by rw [← Array.toList_inj]; exact ha
                 obtain rfl : argTypes = #[t,u] := by rw [← Array.toList_inj]; exact hb
                 generalize hv1 : a.eval d = v1 at hdv
                 generalize hv2 : a.eval x = v2 at hxv
                 cases hdv with
                 | sg _ _ _ ad cap cs hdm hs' hc hl hx' hh' =>
                   obtain rfl : cap = 0 := hdm.full rfl
                   cases hxv with
                   | sb _ _ ad2 cap2 hdm2 hc2 =>
                     refine ⟨_,.slice ad 0 0,w,hK,Post.pure (.sg _ [] true ad 0 cs hdm hs' hc hl hx' hh') hh he,fun o ho => ?_⟩
                     have h1 := zkw (P := P) (ty := o.type) hd hud hty ad ad2 cap2 w
                     simp only [execOp,ho,resolve,invoke,builtin,Sem.run_bind,Sem.run_pure,Result.andThen_ok]
                     simp [hv1,hv2,h1]
               · rename_i s f'
                 obtain ⟨hs,hK⟩ := h
                 obtain rfl : args = #[d,x] := by rw [← Array.toList_inj]; exact ha
                 obtain rfl : argTypes = #[t,u] := by rw [← Array.toList_inj]; exact hb
                 generalize hv1 : a.eval d = v1 at hdv
                 generalize hv2 : a.eval x = v2 at hxv
                 cases hdv with
                 | sg _ _ _ ad cap cs hdm hs' hc hl hx' hh' =>
                   obtain rfl : cap = 0 := hdm.full rfl
                   cases hxv with
                   | si _ _ ad2 cap2 hdm2 hc2 =>
                     refine ⟨_,.slice ad 0 0,w,hK,Post.pure (.sg _ [] true ad 0 cs hdm hs' hc hl hx' hh') hh he,fun o ho => ?_⟩
                     have h1 := zkw (P := P) (ty := o.type) hd hud hty ad ad2 cap2 w
                     simp only [execOp,ho,resolve,invoke,builtin,Sem.run_bind,Sem.run_pure,Result.andThen_ok]
                     simp [hv1,hv2,h1]
               · exact h.elim
           · exact h.elim
     · exact h.elim
   · exact h.elim
 · exact h.elim
theorem zmp {α β : Type} (f : α → β) : ∀ (l : List α) (j : Nat),(l.eraseIdx j).map f = (l.map f).eraseIdx j
 | [],j => by simp
 | x :: r,0 => by simp
 | x :: r,j + 1 => by simp [zmp f r j]
theorem zng {α β : Type} [BEq β] [LawfulBEq β] (f : α → β) : ∀ (l : List α) (j : Nat) (hj : j < l.length),(l.map f).Nodup → (l.filter fun x => !(f x == f l[j])) = l.eraseIdx j
 | [],j,hj,_ => by simp at hj
 | x :: r,0,hj,hn => by
   rw [List.map_cons,List.nodup_cons] at hn
   have h1 : ((fun y => !(f y == f (x :: r)[0])) : α → Bool) x = false := by simp
   rw [List.filter_cons_of_neg (by simp),List.eraseIdx_cons_zero]
   refine List.filter_eq_self.2 fun y hy => ?_
   have : f y ≠ f x := fun e => hn.1 (e ▸ List.mem_map_of_mem hy)
   simpa using this
 | x :: r,j + 1,hj,hn => by
   rw [List.map_cons,List.nodup_cons] at hn
   have hj' : j < r.length := by simpa using hj
   have hne : f x ≠ f r[j] := fun e => hn.1 (e ▸ List.mem_map_of_mem (List.getElem_mem hj'))
   simp only [List.getElem_cons_succ,List.eraseIdx_cons_succ]
   rw [List.filter_cons_of_pos (by simpa using hne),zng f r j hj' hn.2]
def znr (x : AV) (H : Heap) (K : AV → Heap → Prop) : Prop :=
 match x with
 | .rf id s i f => match look H id with
   | some (.o (.mi es _)) => ((i = 0 ∧ f = 0) ∧ s ≠ 0) ∧ (es = [] → K (.tup [.w (.bool false)]) H) ∧ ∀ (j : Nat) (h : j < es.length),K (.tup [.w (.bool true),es[j].1,es[j].2]) (put H id (.o (.mi (es.eraseIdx j) (some es[j]))))
   | _ => False
 | _ => False
theorem zqm {P : Program} {w0 : World} {E : Nat → Prop} {w : World} {loc : Loc} {H : Heap} (he : Env w0 E w loc) (hh : HR w loc H) {nm : Nat} {ty : TypeId} {x : AV} {v : Value} {K : AV → Heap → Prop} (hx : R w loc x v) (h : znr x H K) :
   ∃ y H' u w',K y H' ∧ Post w0 E w loc true nm y H' u w' loc ∧ (∀ id b,look H' id = some b → look H id ≠ none) ∧ (Instr.next v false ty).run P w = .ok u w' := by
 unfold znr at h
 split at h
 · rename_i id s i f
   split at h
   · rename_i es now hl
     obtain ⟨⟨⟨rfl,rfl⟩,hs⟩,hz,hK⟩ := h
     cases hx with
     | rf _ _ _ _ _ h =>
       obtain ⟨c,hc,rfl,m,ms,clk,seen,h1,h2,h3,h4⟩ := zeq hh h hl
       rw [zbd hs,show 0 * s + 0 = 0 from by simp]
       have g1 := zcd (P := P) h1
       have g2 := zcd (P := P) h2
       have hLl : (ms.filter fun e => !seen.contains e.born).toList = ms.toList.filter fun e => !seen.contains e.born := by rw [Array.toList_filter]
       have hlen : (ms.filter fun e => !seen.contains e.born).size = es.length := by
         have := congrArg List.length h4.kv
         rw [List.length_map,List.length_map] at this
         rw [← this,← hLl]; rfl
       generalize hL : (ms.filter fun e => !seen.contains e.born) = L at hLl hlen
       have hLm : ∀ e ∈ L,e ∈ ms.toList := fun e he => by
         have : e ∈ L.toList := by simpa using he
         rw [hLl] at this
         exact (List.mem_filter.1 this).1
       have hold : L.filter (fun e => decide (e.born < clk)) = L := by
         rw [← Array.toList_inj,Array.toList_filter]
         exact List.filter_eq_self.2 fun e he => by simpa using h4.old e (hLm e (by simpa using he))
       have hnew : L.filter (fun e => decide (e.born ≥ clk)) = #[] := by
         rw [← Array.toList_inj,Array.toList_filter]
         refine List.filter_eq_nil_iff.2 fun e he => ?_
         have := h4.old e (hLm e (by simpa using he))
         simp; omega
       by_cases h0 : es.length = 0
       · have he0 : es = [] := List.eq_nil_of_length_eq_zero h0
         have hL0 : L = #[] := by rw [h0] at hlen; exact Array.eq_empty_of_size_eq_zero hlen
         refine ⟨_,H,.tuple #[.bool false],w,hz he0,Post.pure ?_ hh he,fun id b hb => by rw [hb]; simp,?_⟩
         · exact .tup [.w (.bool false)] [.bool false] rfl (fun j h5 h6 => by
             have : j = 0 := by simp at h5; omega
             subst this; exact .w _ rfl)
         · simp only [Instr.next,Sem.run_bind,g1,g2,Result.andThen_ok,next_test_false seen ms clk clk h4.old (Nat.le_refl _),Bool.false_eq_true,if_false,hL,hL0]
           simp [choose,Sem.run,Question.forced]
       · obtain ⟨j,w1,hj,hw1,hch⟩ : ∃ j w1,j < L.size ∧ (w1 = w ∨ w1 = { w with drawn := w.drawn + 1 }) ∧ (choose (.mapNext L.size)).run P w = .ok j w1 := by
           by_cases hn : L.size ≤ 1
           · exact ⟨0,w,by omega,.inl rfl,by simp [choose,Sem.run,Question.forced,hn]⟩
           · refine ⟨(Question.mapNext L.size).cut (w.tape w.drawn (.mapNext L.size)),{ w with drawn := w.drawn + 1 },?_,.inr rfl,by simp [choose,Sem.run,Question.forced,hn]⟩
             simp only [Question.cut]
             exact Nat.mod_lt _ (by omega)
         have hje : j < es.length := by omega
         have hjt : j < (ms.toList.filter fun e => !seen.contains e.born).length := by rw [← hLl]; simpa using hj
         have hke : kvOf L[j] = pp es[j] := by
           have e1 : (ms.toList.filter fun e => !seen.contains e.born)[j]'hjt = L[j] := by simp only [← hLl]; simp
           have e2 := congrArg (fun l : List (Value × Value) => l[j]?) h4.kv
           simp only [List.getElem?_map] at e2
           rw [List.getElem?_eq_getElem hjt,List.getElem?_eq_getElem hje,e1] at e2
           simpa using e2
         generalize hee : L[j] = e at hke
         have hem : e ∈ ms.toList := hLm e (by rw [← hee]; simp)
         have heb := h4.old e hem
         have hcm : m ≠ c := by rintro rfl; exact h3 (.inr ⟨id,hc⟩)
         have hE : Ext (fun _ => False) w loc w1 loc := by rcases hw1 with rfl | rfl <;> exact ⟨Nat.le_refl _,fun _ _ _ => rfl,fun _ _ _ => .inl rfl,fun _ _ h => ⟨rfl,h⟩,fun _ _ _ _ => rfl,fun _ cur _ fz h => ⟨cur,fz,h,rfl⟩⟩
         have hh1 : HR w1 loc H := fun k b hb => by
           by_cases hf : loc.m k = .free
           · exact BlkR.free hf
           · exact (hh k b hb).ext hE (fun h => h) hf
         have he1 : Env w0 E w1 loc := by rcases hw1 with rfl | rfl <;> exact ⟨he.os,he.tape,he.output,he.size,he.same,he.inj,he.lies,he.bad⟩
         have h11 : w1.heap[c]? = some (.mapIter (some m) clk seen clk) := by rcases hw1 with rfl | rfl <;> exact h1
         have h21 : w1.heap[m]? = some (.map ms clk) := by rcases hw1 with rfl | rfl <;> exact h2
         have h6 := h4.pure es[j] (List.getElem_mem hje)
         have hpost := zfb (y := .mi (es.eraseIdx j) (some es[j])) (nm := nm) (ob' := .mapIter (some m) clk (seen.push e.born) clk) (u := .tup [.w (.bool true),es[j].1,es[j].2]) (v := .tuple #[.bool true,e.key,e.val]) he1 hh1 hc h11 rfl ⟨m,ms,clk,_,zog h11,by
             simp only
             rw [Array.getElem?_setIfInBounds,if_neg (Ne.symm hcm)]; exact h21,h3,by
             refine ⟨?_,fun q hq => h4.pure q (List.mem_of_mem_eraseIdx hq),h4.nd,h4.old,fun q hq => ?_⟩
             · have h5 : (ms.toList.filter fun x => !(seen.push e.born).contains x.born) = (ms.toList.filter fun x => !seen.contains x.born).filter fun x => !(x.born == e.born) := by
                 rw [List.filter_filter]
                 refine List.filter_congr fun x _ => ?_
                 rw [contains_push,Bool.not_or,Bool.and_comm]
               have h7 : e = (ms.toList.filter fun x => !seen.contains x.born)[j]'hjt := by rw [← hee]; simp only [← hLl]; simp
               rw [h5]
               have h8 := zng (fun x : MapEntry => x.born) (ms.toList.filter fun x => !seen.contains x.born) j hjt (h4.nd.sublist (List.Sublist.map _ List.filter_sublist))
               rw [← h7] at h8
               rw [h8,zmp,h4.kv,← zmp]
             · injection hq with hq; subst hq
               exact ⟨h6,e,hem,by simp,hke⟩⟩ (by
             have e1 : e.key = pv es[j].1 := congrArg Prod.fst hke
             have e2 : e.val = pv es[j].2 := congrArg Prod.snd hke
             intro w2 loc2
             rw [e1,e2]
             exact .tup [.w (.bool true),es[j].1,es[j].2] [.bool true,pv es[j].1,pv es[j].2] rfl (fun k h7 h8 => by
               have : k = 0 ∨ k = 1 ∨ k = 2 := by simp at h7; omega
               rcases this with rfl | rfl | rfl
               · exact .w _ rfl
               · exact zju (zdm h6.1)
               · exact zju h6.2))
         have hpost' : Post w0 E w loc true nm (.tup [.w (.bool true),es[j].1,es[j].2]) (put H id (.o (.mi (es.eraseIdx j) (some es[j])))) (.tuple #[.bool true,e.key,e.val]) { w1 with heap := w1.heap.setIfInBounds c (.mapIter (some m) clk (seen.push e.born) clk) } loc := by
           rcases hw1 with rfl | rfl
           · exact hpost
           · exact ⟨hpost.r,hpost.h,hpost.env,by obtain ⟨C,h,h'⟩ := hpost.ext; exact ⟨C,⟨h.size,h.keep,h.gone,h.imm,h.own,h.shape⟩,h'⟩,hpost.fresh,hpost.bad⟩
         refine ⟨_,_,_,_,hK j hje,hpost',fun k b hb => ?_,?_⟩
         · rw [zat] at hb
           split at hb
           · rename_i e; subst e; rw [hl]; simp
           · rw [hb]; simp
         · have hne : L.isEmpty = false := by
             cases hi : L.isEmpty with
             | false => rfl
             | true => have := Array.isEmpty_iff.1 hi; subst this; simp at hj
           simp only [Instr.next,Sem.run_bind,g1,g2,Result.andThen_ok,next_test_false seen ms clk clk h4.old (Nat.le_refl _),Bool.false_eq_true,if_false,hL,hold,hnew]
           have hca : ((if L.isEmpty then #[none] else #[]) ++ (L ++ #[]).map some : Array (Option MapEntry)) = L.map some := by rw [hne]; simp
           rw [hca]
           simp only [Array.size_map,hch,Result.andThen_ok]
           simp [hj,hee,zdl h11]
   · exact h.elim
 · exact h.elim
def zoe (T : zab) (sl : List AV) (op : Op) (H : Heap) (K : AV → Heap → Prop) : Prop :=
 match op with
 | .next x false => znr (ev sl x) H K
 | op => zgg T sl op (fun x => K x H)
theorem ztg {P : Program} {w0 : World} {E : Nat → Prop} {T : zab} (hT : TOk P T) {w : World} {loc : Loc} {H : Heap} (he : Env w0 E w loc) (hh : HR w loc H) {nm : Nat} {sl : List AV} {a : Act} {op : Op} {K : AV → Heap → Prop} (hev : ∀ x,R w loc (ev sl x) (a.eval x)) (h : zoe T sl op H K) :
   ∃ x H' v w',K x H' ∧ Post w0 E w loc true nm x H' v w' loc ∧ (∀ id b,look H' id = some b → look H id ≠ none) ∧ ∀ o : Oper,o.op = op → (execOp a.eval o).run P w = .ok (.value v) w' := by
 have key : zgg T sl op (fun x => K x H) → ∃ x H' v w',K x H' ∧ Post w0 E w loc true nm x H' v w' loc ∧ (∀ id b,look H' id = some b → look H id ≠ none) ∧ ∀ o : Oper,o.op = op → (execOp a.eval o).run P w = .ok (.value v) w' := fun h => by
   obtain ⟨x,v,w',h1,h2,h3⟩ := zup (P := P) (nm := nm) hT he hh hev h
   exact ⟨x,H,v,w',h1,h2,fun id b hb => by rw [hb]; simp,h3⟩
 unfold zoe at h
 split at h
 · rename_i x
   obtain ⟨y,H',u,w',h1,h2,h3,h4⟩ := zqm (P := P) (nm := nm) (ty := 0) he hh (hev x) h
   refine ⟨y,H',u,w',h1,h2,h3,fun o ho => ?_⟩
   have h5 : (Instr.next (a.eval x) false o.type).run P w = .ok u w' := h4
   simp [execOp,ho,h5]
 · exact key h
def zna (S : zah) (T : zab) (ops : List Oper) : List Bool → Nat → List Oper → List AV → Heap → (List AV → Heap → Prop) → Prop
 | _,_,[],sl,H,Q => Q sl H
 | [],nm,r,sl,H,Q => aops S T ops nm r sl H Q
 | true :: l,nm,o :: r,sl,H,Q => o.guard = none ∧ zoe T sl o.op H (fun x H => zna S T ops l (nm + 8) r (zaj sl o.dst x) H Q)
 | false :: l,nm,o :: r,sl,H,Q => o.guard = none ∧ (aop S T nm sl o.op H).p ∧ zna S T ops l (nm + 8) r (zaj sl o.dst (aop S T nm sl o.op H).x) (aop S T nm sl o.op H).H Q
theorem zkx {P : Program} {w0 : World} {E : Nat → Prop} {T : zab} {S : zah} (hT : TOk P T) (hS : Fns P S) {ops : Array Oper} {K : Exit → Act → World → Prop} {Q : List AV → Heap → Prop} {B : Bs} {nz : Nat}
   (hK : ∀ sl H a w loc,Base w0 B w loc → Rel' w0 E loc ⟨sl,H,nz⟩ a w → Q sl H → K .normal a w) : ∀ (k : List Bool) (r : List Oper) (nm : Nat) (sl : List AV) (H : Heap) (a : Act) (w : World) (loc : Loc),nz = nm + 8 * r.length → Base w0 B w loc →
   Rel' w0 E loc ⟨sl,H,nm⟩ a w → zna S T ops.toList k nm r sl H Q → wpList P ops K r a w
 | k,[],nm,sl,H,a,w,loc,hz,hb,hr,h => by
   simp only [List.length_nil,Nat.mul_zero,Nat.add_zero] at hz
   subst hz
   exact wpList_nil (hK sl H a w loc hb hr (by cases k with | nil => exact h | cons b _ => cases b <;> exact h))
 | [],o :: r,nm,sl,H,a,w,loc,hz,hb,hr,h => zda (ops := ops) hT hS hK (o :: r) nm sl H a w loc hz hb hr h
 | true :: l,o :: r,nm,sl,H,a,w,loc,hz,hb,hr,h => by
   have hz' : nz = nm + 8 + 8 * r.length := by simp at hz; omega
   obtain ⟨hg,hp⟩ := h
   refine wpList_step fun Kn hKn => ?_
   rw [if_pos (by simp [Region.wanted,hg])]
   obtain ⟨x,H',v,w',hrest,hpost,hin,hrun⟩ := ztg (P := P) (nm := nm) hT hr.env hr.heap (fun x => ev_R hr.slots x) hp
   exact (zao (w' := w') (loc' := loc) (out := ⟨True,x,H'⟩) (hrun o rfl) hpost) Kn K (fun v w' loc' hpost => hKn _ _ (zkx hT hS hK l r (nm + 8) _ _ _ w' loc' hz' (hb.post hpost) (zfs hr hpost (fun id b hl => Or.inl (hin id b hl)) o.dst) hrest))
 | false :: l,o :: r,nm,sl,H,a,w,loc,hz,hb,hr,h => by
   have hz' : nz = nm + 8 + 8 * r.length := by simp at hz; omega
   obtain ⟨hg,hp,hrest⟩ := h
   refine wpList_step fun Kn hKn => ?_
   rw [if_pos (by simp [Region.wanted,hg])]
   have hop := zcf hT hS hr.env hr.heap (fun id h1 _ => hr.fresh id h1) o (fun x _ => ev_R hr.slots x) hp
   exact hop Kn K (fun v w' loc' hpost => hKn _ _ (zkx hT hS hK l r (nm + 8) _ _ _ w' loc' hz' (hb.post hpost) (zfs hr hpost (zeo hp) o.dst) hrest))
inductive RP where
 | std
 | frz (fs : List Nat)
 | opn (fs : List Nat) (k : Nat)
 | prs (l : List (Nat × Nat))
 | tst (k : List Bool)
 | wkp (l : List (Nat × Nat))
 | drs (l : List (Nat × Nat)) (k : Nat)
 | drf (l : List (Nat × Nat)) (k f : Nat)
 | wks
abbrev zhx := Nat → RP
def floatAt (T : zab) (f : Nat) (ops : List Oper) : Bool := match ops[f]? with
 | some o => zsf T o
 | none => false
def zck (T : zab) (pl : zhx) : Code → Bool
 | .region id ops draw => match pl id with
   | .std => !draw || zlx T ops.toList
   | .frz _ => !draw || zlx T ops.toList
   | .opn _ _ => !draw
   | .tst _ => !draw
   | .prs p => draw && zhi T ops.toList p
   | .wkp p => draw && zhi T ops.toList p
   | .wks => !draw || zlx T ops.toList
   | .drs p k => draw && (decide (k ≤ ops.toList.length) && (zhi T (ops.toList.take k) p && tailB k ops.toList))
   | .drf p k f => draw && (decide (k < ops.toList.length ∧ f < k) && (zhi T (ops.toList.take k) p && (znd f k ops.toList && floatAt T f ops.toList)))
 | .seq a b => zck T pl a && zck T pl b
 | .cond _ a b => zck T pl a && zck T pl b
 | .block _ c => zck T pl c
 | .loop c => zck T pl c
 | _ => true
def wkF (S : zah) (T : zab) (l : List Oper) (p : List (Nat × Nat)) (nx : Nat) (sl : List AV) (H : Heap) (Q : Exit → ASt → Prop) : Prop := ∃ sl' H',Weak ⟨sl,H,nx⟩ ⟨sl',H',nx⟩ ∧ zfn S T l p nx [] l sl' H' (regK (nx + 8 * l.length) Q)
def drF (S SO : zah) (T : zab) (l : List Oper) (p : List (Nat × Nat)) (k nx : Nat) (sl : List AV) (H : Heap) (Q : Exit → ASt → Prop) : Prop :=
 ∃ sl' H',Weak ⟨sl,H,nx⟩ ⟨sl',H',nx⟩ ∧ zfn S T (l.take k) p nx [] (l.take k) sl' H' (fun sl H => znn S SO T l 0 (nx + 8 * k) (l.drop k) sl H (regK (nx + 8 * l.length) Q))
def behindF (l : List Oper) (k f : Nat) : List Oper := match l.drop k,l[f]? with
 | c :: r,some o => c :: o :: r
 | _,_ => []
def dstF (l : List Oper) (f : Nat) : Option Tmp := match l[f]? with
 | some o => o.dst
 | none => none
def dfF (S SO : zah) (T : zab) (l : List Oper) (p : List (Nat × Nat)) (k f nx : Nat) (sl : List AV) (H : Heap) (Q : Exit → ASt → Prop) : Prop :=
 ∃ sl' H',Weak ⟨sl,H,nx⟩ ⟨sl',H',nx⟩ ∧ zfn S T (l.take k) p nx [] (l.take k) sl' H' (fun sl H => znn S SO T l 0 (nx + 8 * k) (l.drop k) sl H (regK (nx + 8 * (l.length + 1)) Q) ∧ znn S SO T l 0 (nx + 8 * k) (behindF l k f) (zaj sl (dstF l f) .junk) H (regK (nx + 8 * (l.length + 1)) Q))
def wsF (S : zah) (T : zab) (l : List Oper) (nx : Nat) (sl : List AV) (H : Heap) (Q : Exit → ASt → Prop) : Prop := ∃ sl' H',Weak ⟨sl,H,nx⟩ ⟨sl',H',nx⟩ ∧ aops S T l nx l sl' H' (regK (nx + 8 * l.length) Q)
def awpO (S SO : zah) (T : zab) (pl : zhx) : Code → (Exit → ASt → Prop) → ASt → Prop
 | .skip,Q,σ => Q .normal σ
 | .label _,Q,σ => Q .normal σ
 | .region id ops _,Q,σ => match pl id with
   | .std => aops S T ops.toList σ.nx ops.toList σ.sl σ.H (regK (σ.nx + 8 * ops.toList.length) Q)
   | .prs p => zfn S T ops.toList p σ.nx [] ops.toList σ.sl σ.H (regK (σ.nx + 8 * ops.toList.length) Q)
   | .frz fs => frzK fs σ.sl σ.H (fun sl H => aops S T ops.toList σ.nx ops.toList sl H (regK (σ.nx + 8 * ops.toList.length) Q))
   | .opn fs k => frzK fs σ.sl σ.H (fun sl H => znn S SO T ops.toList k σ.nx ops.toList sl H (regK (σ.nx + 8 * ops.toList.length) Q))
   | .tst k => zna S T ops.toList k σ.nx ops.toList σ.sl σ.H (regK (σ.nx + 8 * ops.toList.length) Q)
   | .wkp p => wkF S T ops.toList p σ.nx σ.sl σ.H Q
   | .drs p k => drF S SO T ops.toList p k σ.nx σ.sl σ.H Q
   | .drf p k f => dfF S SO T ops.toList p k f σ.nx σ.sl σ.H Q
   | .wks => wsF S T ops.toList σ.nx σ.sl σ.H Q
 | .seq a b,Q,σ => awpO S SO T pl a (seqK (awpO S SO T pl b Q) Q) σ
 | .cond c a b,Q,σ => match ev σ.sl c with
     | .w (.bool t) => zhs t (awpO S SO T pl a Q σ) (awpO S SO T pl b Q σ)
     | _ => False
 | .block id c,Q,σ => awpO S SO T pl c (zgt id Q) σ
 | .loop c,Q,σ => ALoop (awpO S SO T pl c) Q σ
 | .exit id,Q,σ => Q (.exit id) σ
 | .ret,Q,σ => Q .ret σ
 | _,_,_ => False
open Classical in
theorem zsq {P : Program} {w0 : World} {E : Nat → Prop} {T : zab} {S SO : zah} {pl : zhx} (hm : P.follows .mixedOrders = true) (hT : TOk P T) (hS : Fns P S) (hSO : FnsO P SO) {B : Bs} : ∀ (c : Code) (Q : Exit → ASt → Prop) (σ : ASt) (a : Act) (w : World),
   zck T pl c = true → awpO S SO T pl c Q σ → Rel w0 E B σ a w → c.wp P (Low w0 E B Q) a w := by
 intro c
 induction c with
 | skip => intro Q σ a w hdr h hr; exact wp_skip ⟨σ,hr,h⟩
 | label l => intro Q σ a w hdr h hr; exact wp_label ⟨σ,hr,h⟩
 | ret => intro Q σ a w hdr h hr; exact wp_ret ⟨σ,hr,h⟩
 | exit id => intro Q σ a w hdr h hr; exact wp_exit ⟨σ,hr,h⟩
 | region id ops draw =>
   intro Q σ a w hdr h hr
   obtain ⟨loc,hb,hr⟩ := hr
   obtain ⟨sl,H,nx⟩ := σ
   have hK : ∀ sl H a w loc,Base w0 B w loc → Rel' w0 E loc ⟨sl,H,nx + 8 * ops.toList.length⟩ a w → regK (nx + 8 * ops.toList.length) Q sl H → Low w0 E B Q .normal a w := fun sl H a w loc h1 h2 h3 => ⟨_,⟨loc,h1,h2⟩,h3⟩
   simp only [zck] at hdr
   simp only [awpO] at h
   cases hp : pl id with
   | std =>
     simp only [hp] at hdr h
     cases draw with
     | false => exact wp_region_list (zda hT hS hK ops.toList nx sl H a w loc rfl hb hr h)
     | true => exact zet hT hS hm w0 E ops.toList _ _ B nx sl H a w loc id (by simpa using hdr) hK hb hr h
   | prs p =>
     simp only [hp] at hdr h
     simp only [Bool.and_eq_true] at hdr
     obtain ⟨hd1,hd2⟩ := hdr
     subst hd1
     exact zkr hT hS hm hd2 hK hb hr h
   | frz fs =>
     simp only [hp] at hdr h
     obtain ⟨sl',H',hw,h⟩ := zsd (nx := nx) _ _ _ _ h
     obtain ⟨loc',hb',hr'⟩ := hw _ _ _ _ _ ⟨loc,hb,hr⟩
     cases draw with
     | false => exact wp_region_list (zda hT hS hK ops.toList nx sl' H' a w loc' rfl hb' hr' h)
     | true => exact zet hT hS hm w0 E ops.toList _ _ B nx sl' H' a w loc' id (by simpa using hdr) hK hb' hr' h
   | opn fs k =>
     simp only [hp] at hdr h
     obtain ⟨sl',H',hw,h⟩ := zsd (nx := nx) _ _ _ _ h
     obtain ⟨loc',hb',hr'⟩ := hw _ _ _ _ _ ⟨loc,hb,hr⟩
     cases draw with
     | false => exact wp_region_list (zfm hT hS hSO hK k ops.toList nx sl' H' a w loc' rfl hb' hr' h)
     | true => simp at hdr
   | tst k =>
     simp only [hp] at hdr h
     cases draw with
     | false => exact wp_region_list (zkx hT hS hK k ops.toList nx sl H a w loc rfl hb hr h)
     | true => simp at hdr
   | wkp p =>
     simp only [hp] at hdr h
     simp only [Bool.and_eq_true] at hdr
     obtain ⟨hd1,hd2⟩ := hdr
     subst hd1
     obtain ⟨sl',H',hw,h⟩ := h
     obtain ⟨loc',hb',hr'⟩ := hw _ _ _ _ _ ⟨loc,hb,hr⟩
     exact zkr hT hS hm hd2 hK hb' hr' h
   | wks =>
     simp only [hp] at hdr h
     obtain ⟨sl',H',hw,h⟩ := h
     obtain ⟨loc',hb',hr'⟩ := hw _ _ _ _ _ ⟨loc,hb,hr⟩
     cases draw with
     | false => exact wp_region_list (zda hT hS hK ops.toList nx sl' H' a w loc' rfl hb' hr' h)
     | true => exact zet hT hS hm w0 E ops.toList _ _ B nx sl' H' a w loc' id (by simpa using hdr) hK hb' hr' h
   | drs p k =>
     simp only [hp] at hdr h
     simp only [Bool.and_eq_true,decide_eq_true_eq] at hdr
     obtain ⟨hd1,hd0,hd2,hd3⟩ := hdr
     subst hd1
     obtain ⟨sl',H',hw,h⟩ := h
     obtain ⟨loc',hb',hr'⟩ := hw _ _ _ _ _ ⟨loc,hb,hr⟩
     have hlk : (ops.toList.take k).length = k := by rw [List.length_take]; omega
     have e : ops = (ops.toList.take k ++ ops.toList.drop k).toArray := by rw [List.take_append_drop]
     have e2 : ops.toList.take k ++ ops.toList.drop k = ops.toList := List.take_append_drop _ _
     have hz : nx + 8 * ops.toList.length = nx + 8 * k + 8 * (ops.toList.drop k).length := by rw [List.length_drop]; omega
     rw [e]
     refine zpp (l := ops.toList.take k) (suf := ops.toList.drop k) (fl := k) hT hS hm hd2 (by rw [hlk,e2]; exact hd3) (fun sl2 H2 a2 w2 loc2 hb2 hr2 hq => ?_) (fun of c hof => by rw [List.getElem?_eq_none (by omega)] at hof; cases hof) hb' hr' h
     rw [hlk] at hr2
     refine zfm (ops := (ops.toList.take k ++ ops.toList.drop k).toArray) hT hS hSO hK 0 (ops.toList.drop k) (nx + 8 * k) sl2 H2 a2 w2 loc2 hz hb2 hr2 ?_
     rw [← e]; exact hq
   | drf p k f =>
     simp only [hp] at hdr h
     simp only [Bool.and_eq_true,decide_eq_true_eq] at hdr
     obtain ⟨hd1,⟨hd0,hdf⟩,hd2,hd3,hd4⟩ := hdr
     subst hd1
     obtain ⟨sl',H',hw,h⟩ := h
     obtain ⟨loc',hb',hr'⟩ := hw _ _ _ _ _ ⟨loc,hb,hr⟩
     have hlk : (ops.toList.take k).length = k := by rw [List.length_take]; omega
     have e : ops = (ops.toList.take k ++ ops.toList.drop k).toArray := by rw [List.take_append_drop]
     have e2 : ops.toList.take k ++ ops.toList.drop k = ops.toList := List.take_append_drop _ _
     have hdl : (ops.toList.drop k).length = ops.toList.length - k := List.length_drop
     have hK1 : ∀ sl H a w loc,Base w0 B w loc → Rel' w0 E loc ⟨sl,H,nx + 8 * ops.toList.length⟩ a w → regK (nx + 8 * (ops.toList.length + 1)) Q sl H → Low w0 E B Q .normal a w := fun sl H a w loc h1 h2 h3 =>
       ⟨⟨sl,H,nx + 8 * (ops.toList.length + 1)⟩,⟨loc,h1,⟨h2.size,h2.slots,h2.heap,h2.env,fun id hid => h2.fresh id (by simp only at hid ⊢; omega),h2.defers,fun id b hl => by have := h2.low id b hl; simp only at this ⊢; omega⟩⟩,h3⟩
     have hK3 : ∀ sl H a w loc,Base w0 B w loc → Rel' w0 E loc ⟨sl,H,nx + 8 * (ops.toList.length + 1)⟩ a w → regK (nx + 8 * (ops.toList.length + 1)) Q sl H → Low w0 E B Q .normal a w := fun sl H a w loc h1 h2 h3 => ⟨_,⟨loc,h1,h2⟩,h3⟩
     rw [e]
     refine zpp (l := ops.toList.take k) (suf := ops.toList.drop k) (fl := f) hT hS hm hd2 (by rw [hlk,e2]; exact hd3) (fun sl2 H2 a2 w2 loc2 hb2 hr2 hq => ?_) (fun of c hof hc => ?_) hb' hr' h
     · rw [hlk] at hr2
       refine zfm (ops := (ops.toList.take k ++ ops.toList.drop k).toArray) hT hS hSO hK1 0 (ops.toList.drop k) (nx + 8 * k) sl2 H2 a2 w2 loc2 (by omega) hb2 hr2 ?_
       rw [← e]; exact hq.1
     · have hof2 : ops.toList[f]? = some of := by
         rw [List.getElem?_take] at hof
         rw [if_pos hdf] at hof
         exact hof
       unfold floatAt at hd4
       rw [hof2] at hd4
       refine ⟨hd4,fun sl2 H2 a2 w2 loc2 hb2 hr2 hq => ?_⟩
       rw [hlk] at hr2
       have hdr : ops.toList.drop k = c :: (ops.toList.drop k).drop 1 := by
         cases hdd : ops.toList.drop k with
         | nil => rw [hdd] at hc; cases hc
         | cons x r => rw [hdd] at hc; injection hc with hc; subst hc; rfl
       have hq2 := hq.2
       have hbe : behindF ops.toList k f = c :: of :: (ops.toList.drop k).drop 1 := by
         unfold behindF
         rw [hof2]
         cases hdd : ops.toList.drop k with
         | nil => rw [hdd] at hc; cases hc
         | cons x r => rw [hdd] at hc; injection hc with hc; subst hc; rfl
       have hdst : dstF ops.toList f = of.dst := by unfold dstF; rw [hof2]
       rw [hbe,hdst] at hq2
       refine zfm (ops := (ops.toList.take k ++ ops.toList.drop k).toArray) hT hS hSO hK3 0 _ (nx + 8 * k) _ H2 a2 w2 loc2 (by simp only [List.length_cons,List.length_drop]; omega) hb2 hr2 ?_
       rw [← e]; exact hq2
 | seq x y ihx ihy =>
   intro Q σ a w hdr h hr
   refine wp_seq (wp_mono (ihx _ σ a w (by simp only [zck,Bool.and_eq_true] at hdr; exact hdr.1) h hr) ?_)
   rintro e a' w' ⟨σ',hr',hq⟩
   cases e with
   | normal => exact ihy Q σ' a' w' (by simp only [zck,Bool.and_eq_true] at hdr; exact hdr.2) hq hr'
   | _ => exact ⟨σ',hr',hq⟩
 | cond c x y ihx ihy =>
   intro Q σ a w hdr h hr
   simp only [awpO,zhs] at h
   simp only [zck,Bool.and_eq_true] at hdr
   obtain ⟨loc,hb,hr⟩ := hr
   split at h
   · rename_i t hc
     have hv := ev_R hr.slots c
     rw [hc] at hv
     have hv := hv.wv
     cases t with
     | true => exact wp_cond_true hv (ihx Q σ a w hdr.1 (h.1 rfl) ⟨loc,hb,hr⟩)
     | false => exact wp_cond_false hv (ihy Q σ a w hdr.2 (h.2 rfl) ⟨loc,hb,hr⟩)
   · exact h.elim
 | block id c ih =>
   intro Q σ a w hdr h hr
   refine wp_block (wp_mono (ih _ σ a w hdr h hr) ?_)
   rintro e a' w' ⟨σ',hr',hq⟩
   cases e with
   | exit id' =>
     simp only [zgt,Exit.inBlock] at hq ⊢
     split at hq
     · rename_i he; rw [if_pos he]; exact ⟨σ',hr',hq⟩
     · rename_i he; rw [if_neg he]; exact ⟨σ',hr',hq⟩
   | _ => exact ⟨σ',hr',hq⟩
 | loop c ih =>
   intro Q σ a w hdr h hr
   obtain ⟨I,⟨n0,σ0,hw0,hI0⟩,hround⟩ := h
   let p : Act → World → Nat → Prop := fun a w n => ∃ σ,Rel w0 E B σ a w ∧ I n σ
   have hleast : ∀ a w,(∃ n,p a w n) → ∃ m,p a w m ∧ ∀ k,p a w k → m ≤ k := fun a w ⟨n,hn⟩ => let ⟨m,h1,_,h3⟩ := least n hn; ⟨m,h1,h3⟩
   let μ : Act → World → Nat := fun a w => if h : ∃ n,p a w n then Classical.choose (hleast a w h) else 0
   refine wp_loop (fun a w => ∃ n,p a w n) μ ⟨n0,σ0,hw0 w0 E B a w hr,hI0⟩ ?_
   intro a w hex
   have hμ : μ a w = Classical.choose (hleast a w hex) := dif_pos hex
   obtain ⟨⟨σ1,hr1,hI1⟩,hmin⟩ := Classical.choose_spec (hleast a w hex)
   rw [← hμ] at hI1
   refine wp_mono (ih _ σ1 a w hdr (hround _ σ1 hI1) hr1) ?_
   rintro e a' w' ⟨σ',hr',hq⟩
   cases e with
   | normal =>
     obtain ⟨m,σ2,hlt,hw2,hI2⟩ := hq
     have hp : p a' w' m := ⟨σ2,hw2 w0 E B a' w' hr',hI2⟩
     refine ⟨⟨m,hp⟩,?_⟩
     have hμ' : μ a' w' = Classical.choose (hleast a' w' ⟨m,hp⟩) := dif_pos ⟨m,hp⟩
     have := (Classical.choose_spec (hleast a' w' ⟨m,hp⟩)).2 m hp
     rw [← hμ'] at this
     exact Nat.lt_of_le_of_lt this hlt
   | _ =>
     obtain ⟨σ2,hw2,hq⟩ := hq
     exact ⟨σ2,hw2 w0 E B a' w' hr',hq⟩
 | _ => intro Q σ a w hdr h hr; exact h.elim
theorem zdf {P : Program} {T : zab} {S SO : zah} (hm : P.follows .mixedOrders = true) (hT : TOk P T) (hS : Fns P S) (hSO : FnsO P SO) {f : FuncId} {fn : Func} {c : Code} (hf : P.funcs[f]? = some fn) (hb : fn.body = some c) {spec : zar}
   (h : ∀ xs pins,(spec xs pins).p → pins.length ≤ 4 ∧ ∃ pl,zck T pl c = true ∧ awpO S SO T pl c (EndsWO T fn.results.toList pins (spec xs pins)) ⟨xs ++ List.replicate (fn.ntmps - xs.length) .junk,pinHeap 0 pins,4⟩) : zdb P f spec :=
 sound_genO hT hf hb (Qp := fun xs pins => EndsWO T fn.results.toList pins (spec xs pins)) (fun _ _ _ _ h => h) (fun xs pins hp => ⟨(h xs pins hp).1,fun w0 E B a w hr => (h xs pins hp).2.elim fun pl hh => zsq hm hT hS hSO c _ _ _ _ hh.1 hh.2 hr⟩)
theorem zbs {P : Program} {T : zab} {S SO : zah} (hm : P.follows .mixedOrders = true) (hT : TOk P T) (hS : Fns P S) (hSO : FnsO P SO) {f : FuncId} {fn : Func} {c : Code} (hf : P.funcs[f]? = some fn) (hb : fn.body = some c) {spec : zar}
   (h : ∀ xs pins,(spec xs pins).p → closedB pins = true → pins.length ≤ 4 ∧ ∃ pl,zck T pl c = true ∧ awpO S SO T pl c (EndsW T fn.results.toList pins (spec xs pins)) ⟨xs ++ List.replicate (fn.ntmps - xs.length) .junk,pinHeap 0 pins,4⟩) : zbn P f spec :=
 sound_genK (S := S) hT hS hf hb (Qp := fun xs pins => EndsW T fn.results.toList pins (spec xs pins)) (fun _ _ _ _ h => h) (fun xs pins hp hc => ⟨(h xs pins hp hc).1,fun w0 E B a w hr => (h xs pins hp hc).2.elim fun pl hh => zsq hm hT hS hSO c _ _ _ _ hh.1 hh.2 hr⟩)
def laterO (S SO : zah) (T : zab) (pl : zhx) (b : Code) (Q : Exit → ASt → Prop) : Exit → ASt → Prop := seqK (awpO S SO T pl b Q) Q
section rules
variable {S SO : zah} {T : zab} {pl : zhx} {Q : Exit → ASt → Prop} {σ : ASt}
theorem zxr : awpO S SO T pl .skip Q σ = Q .normal σ := rfl
theorem zsr {l : Nat} : awpO S SO T pl (.label l) Q σ = Q .normal σ := rfl
theorem awpO_ret : awpO S SO T pl .ret Q σ = Q .ret σ := rfl
theorem zxs {id : Nat} : awpO S SO T pl (.exit id) Q σ = Q (.exit id) σ := rfl
theorem zqb {id : Nat} {l : List Oper} {draw : Bool} : awpO S SO T pl (.region id l.toArray draw) Q σ = match pl id with
   | .std => aops S T l σ.nx l σ.sl σ.H (regK (σ.nx + 8 * l.length) Q)
   | .prs p => zfn S T l p σ.nx [] l σ.sl σ.H (regK (σ.nx + 8 * l.length) Q)
   | .frz fs => frzK fs σ.sl σ.H (fun sl H => aops S T l σ.nx l sl H (regK (σ.nx + 8 * l.length) Q))
   | .opn fs k => frzK fs σ.sl σ.H (fun sl H => znn S SO T l k σ.nx l sl H (regK (σ.nx + 8 * l.length) Q))
   | .tst k => zna S T l k σ.nx l σ.sl σ.H (regK (σ.nx + 8 * l.length) Q)
   | .wkp p => wkF S T l p σ.nx σ.sl σ.H Q
   | .drs p k => drF S SO T l p k σ.nx σ.sl σ.H Q
   | .drf p k f => dfF S SO T l p k f σ.nx σ.sl σ.H Q
   | .wks => wsF S T l σ.nx σ.sl σ.H Q := by
 unfold awpO; cases pl id <;> rfl
theorem awpO_seq {a b : Code} : awpO S SO T pl (.seq a b) Q σ = awpO S SO T pl a (laterO S SO T pl b Q) σ := rfl
theorem zss {id : Nat} {c : Code} : awpO S SO T pl (.block id c) Q σ = awpO S SO T pl c (zgt id Q) σ := rfl
theorem zxt {c : Operand} {a b : Code} : awpO S SO T pl (.cond c a b) Q σ = match ev σ.sl c with
     | .w (.bool t) => zhs t (awpO S SO T pl a Q σ) (awpO S SO T pl b Q σ)
     | _ => False := rfl
theorem zdt {c : Code} (h : ALoop (awpO S SO T pl c) Q σ) : awpO S SO T pl (.loop c) Q σ := h
theorem zaa {b : Code} : laterO S SO T pl b Q .normal σ = awpO S SO T pl b Q σ := rfl
theorem zow {b : Code} {id : Nat} : laterO S SO T pl b Q (.exit id) σ = Q (.exit id) σ := rfl
theorem zrx {b : Code} : laterO S SO T pl b Q .ret σ = Q .ret σ := rfl
variable {ops r : List Oper} {o : Oper} {nm k : Nat} {sl : List AV} {H : Heap} {Q' : List AV → Heap → Prop}
def openKO (q : Out) (sl : List AV) (dst : Option Tmp) (K : List AV → Heap → Prop) : Prop := q.p ∧ K (zaj sl dst q.x) q.H
theorem openKO_def {q : Out} {dst : Option Tmp} {K : List AV → Heap → Prop} : openKO q sl dst K = (q.p ∧ K (zaj sl dst q.x) q.H) := rfl
theorem zsz {dst : Option Tmp} {op : Op} {type : TypeId} {pos : String} {after : Array Edge} : znn S SO T ops 0 nm (⟨dst,op,type,pos,after,none⟩ :: r) sl H Q' =
   openKO (zcl SO T nm sl op H) sl dst (fun sl' H' => aops S T ops (nm + 8) r sl' H' Q') := by
 simp [znn,openKO]
theorem zta {dst : Option Tmp} {op : Op} {type : TypeId} {pos : String} {after : Array Edge} : znn S SO T ops (k + 1) nm (⟨dst,op,type,pos,after,none⟩ :: r) sl H Q' =
   ((aop S T nm sl op H).p ∧ znn S SO T ops k (nm + 8) r (zaj sl dst (aop S T nm sl op H).x) (aop S T nm sl op H).H Q') := by
 simp [znn]
theorem zxz : zna S T ops [] nm r sl H Q' = aops S T ops nm r sl H Q' := by
 cases r <;> rfl
theorem zsy {l : List Bool} : zna S T ops l nm [] sl H Q' = Q' sl H := by
 cases l with
 | nil => rfl
 | cons b _ => cases b <;> rfl
theorem aopsT_t {l : List Bool} {dst : Option Tmp} {op : Op} {type : TypeId} {pos : String} {after : Array Edge} : zna S T ops (true :: l) nm (⟨dst,op,type,pos,after,none⟩ :: r) sl H Q' =
   (zoe T sl op H (fun x H => zna S T ops l (nm + 8) r (zaj sl dst x) H Q')) := by
 simp [zna]
theorem aopsT_f {l : List Bool} {dst : Option Tmp} {op : Op} {type : TypeId} {pos : String} {after : Array Edge} : zna S T ops (false :: l) nm (⟨dst,op,type,pos,after,none⟩ :: r) sl H Q' =
   ((aop S T nm sl op H).p ∧ zna S T ops l (nm + 8) r (zaj sl dst (aop S T nm sl op H).x) (aop S T nm sl op H).H Q') := by
 simp [zna]
end rules
end Ax
end Go.Proofs.Ytolclgkginfiaaa
namespace Go.Proofs.Ytolclgkginfiaaa
open Ax
theorem evTO : (type_of% @zxr) ∧
   (type_of% @zsr) ∧
   (type_of% @awpO_ret) ∧
   (type_of% @zxs) ∧
   (type_of% @zqb) ∧
   (type_of% @awpO_seq) ∧
   (type_of% @zss) ∧
   (type_of% @zxt) ∧
   (type_of% @zow) ∧
   (type_of% @zrx) ∧
   (type_of% @zsz) ∧
   (type_of% @zta) ∧
   (type_of% @zxz) ∧
   (type_of% @zsy) ∧
   (type_of% @aopsT_t) ∧
   (type_of% @aopsT_f) :=
 ⟨@zxr,@zsr,@awpO_ret,@zxs,@zqb,@awpO_seq,@zss,@zxt,@zow,@zrx,@zsz,@zta,@zxz,@zsy,@aopsT_t,@aopsT_f⟩
theorem evDO : (type_of% @Ax.frzS.eq_1) ∧
   (type_of% @Ax.frzL.eq_1) ∧
   (type_of% @Ax.frzL.eq_2) ∧
   (type_of% @Ax.fzL.eq_1) ∧
   (type_of% @Ax.fzL.eq_2) ∧
   (type_of% @Ax.fzH.eq_1) ∧
   (type_of% @Ax.fzH.eq_2) ∧
   (type_of% @Ax.AV.fz.eq_1) ∧
   (type_of% @Ax.AV.fz.eq_2) ∧
   (type_of% @Ax.AV.fz.eq_3) ∧
   (type_of% @Ax.AV.fz.eq_4) ∧
   (type_of% @Ax.AV.fz.eq_5) ∧
   (type_of% @Ax.fiL.eq_1) ∧
   (type_of% @Ax.fiL.eq_2) ∧
   (type_of% @Ax.fiH.eq_1) ∧
   (type_of% @Ax.fiH.eq_2) ∧
   (type_of% @Ax.AV.fi.eq_1) ∧
   (type_of% @Ax.AV.fi.eq_2) ∧
   (type_of% @Ax.AV.fi.eq_3) ∧
   (type_of% @Ax.AV.fi.eq_4) ∧
   (type_of% @Ax.AV.fi.eq_5) ∧
   (type_of% @Ax.fgL.eq_1) ∧
   (type_of% @Ax.fgL.eq_2) ∧
   (type_of% @Ax.fgH.eq_1) ∧
   (type_of% @Ax.fgH.eq_2) ∧
   (type_of% @Ax.AV.fg.eq_1) ∧
   (type_of% @Ax.AV.fg.eq_2) ∧
   (type_of% @Ax.AV.fg.eq_3) ∧
   (type_of% @Ax.AV.fg.eq_4) ∧
   (type_of% @Ax.AV.fg.eq_5) ∧
   (type_of% @Ax.aOpen.eq_1) ∧
   (type_of% @Ax.openOut.eq_1) ∧
   (type_of% @Ax.reach.eq_1) ∧
   (type_of% @Ax.reach.eq_2) ∧
   (type_of% @Ax.reach.eq_3) ∧
   (type_of% @Ax.walk.eq_1) ∧
   (type_of% @Ax.walk.eq_2) ∧
   (type_of% @Ax.allIn.eq_1) ∧
   (type_of% @Ax.allIn.eq_2) ∧
   (type_of% @Ax.pinsIn.eq_1) ∧
   (type_of% @Ax.pinsIn.eq_2) ∧
   (type_of% @Ax.pinsR.eq_1) ∧
   (type_of% @Ax.pinsR.eq_2) ∧
   (type_of% @Ax.backO.eq_1) ∧
   (type_of% @Ax.backO.eq_2) ∧
   (type_of% @Ax.gone.eq_1) ∧
   (type_of% @Ax.AV.sids.eq_1) ∧
   (type_of% @Ax.AV.sids.eq_2) ∧
   (type_of% @Ax.AV.sids.eq_3) ∧
   (type_of% @Ax.AV.sids.eq_4) ∧
   (type_of% @Ax.AV.sids.eq_5) ∧
   (type_of% @Ax.AV.sids.eq_6) ∧
   (type_of% @Ax.sidsL.eq_1) ∧
   (type_of% @Ax.sidsL.eq_2) ∧
   (type_of% @Ax.AV.sidsH.eq_1) ∧
   (type_of% @Ax.AV.sidsH.eq_2) ∧
   (type_of% @Ax.AV.sidsH.eq_3) ∧
   (type_of% @Ax.AV.sidsH.eq_4) ∧
   (type_of% @Ax.AV.sidsH.eq_5) ∧
   (type_of% @Ax.AV.sidsH.eq_6) ∧
   (type_of% @Ax.sidsLH.eq_1) ∧
   (type_of% @Ax.sidsLH.eq_2) ∧
   (type_of% @Ax.Blk.renB.eq_1) ∧
   (type_of% @Ax.idxOf.eq_1) ∧
   (type_of% @Ax.EndsXO.eq_1) ∧
   (type_of% @Ax.endIds.eq_1) ∧
   (type_of% @Ax.reachE.eq_1) ∧
   (type_of% @Ax.reachE.eq_2) ∧
   (type_of% @Ax.reachE.eq_3) ∧
   (type_of% @Ax.idsAt.eq_1) ∧
   (type_of% @Ax.idsAtL.eq_1) ∧
   (type_of% @Ax.idsAtL.eq_2) ∧
   (type_of% @Ax.walkI.eq_1) ∧
   (type_of% @Ax.walkI.eq_2) ∧
   (type_of% @Ax.matchE.eq_1) ∧
   (type_of% @Ax.matchE.eq_2) ∧
   (type_of% @Ax.matchE.eq_3) ∧
   (type_of% @Ax.aopF.eq_1) ∧
   (type_of% @Ax.foot.eq_1) ∧
   (type_of% @Ax.footA.eq_1) ∧
   (type_of% @Ax.keepIn.eq_1) ∧
   (type_of% @Ax.keepIn.eq_2) ∧
   (type_of% @Ax.dropIn.eq_1) ∧
   (type_of% @Ax.dropIn.eq_2) ∧
   (type_of% @Ax.bids.eq_1) ∧
   (type_of% @Ax.bids.eq_2) ∧
   (type_of% @Ax.heldB.eq_1) ∧
   (type_of% @Ax.memOk.eq_1) ∧
   (type_of% @Ax.clearOf.eq_1) :=
 ⟨@Ax.frzS.eq_1,@Ax.frzL.eq_1,@Ax.frzL.eq_2,@Ax.fzL.eq_1,@Ax.fzL.eq_2,@Ax.fzH.eq_1,@Ax.fzH.eq_2,@Ax.AV.fz.eq_1,@Ax.AV.fz.eq_2,@Ax.AV.fz.eq_3,@Ax.AV.fz.eq_4,@Ax.AV.fz.eq_5,@Ax.fiL.eq_1,@Ax.fiL.eq_2,@Ax.fiH.eq_1,@Ax.fiH.eq_2,@Ax.AV.fi.eq_1,@Ax.AV.fi.eq_2,@Ax.AV.fi.eq_3,@Ax.AV.fi.eq_4,@Ax.AV.fi.eq_5,@Ax.fgL.eq_1,@Ax.fgL.eq_2,@Ax.fgH.eq_1,@Ax.fgH.eq_2,@Ax.AV.fg.eq_1,@Ax.AV.fg.eq_2,@Ax.AV.fg.eq_3,@Ax.AV.fg.eq_4,@Ax.AV.fg.eq_5,@Ax.aOpen.eq_1,@Ax.openOut.eq_1,@Ax.reach.eq_1,@Ax.reach.eq_2,@Ax.reach.eq_3,@Ax.walk.eq_1,@Ax.walk.eq_2,@Ax.allIn.eq_1,@Ax.allIn.eq_2,@Ax.pinsIn.eq_1,@Ax.pinsIn.eq_2,@Ax.pinsR.eq_1,@Ax.pinsR.eq_2,@Ax.backO.eq_1,@Ax.backO.eq_2,@Ax.gone.eq_1,@Ax.AV.sids.eq_1,@Ax.AV.sids.eq_2,@Ax.AV.sids.eq_3,@Ax.AV.sids.eq_4,@Ax.AV.sids.eq_5,@Ax.AV.sids.eq_6,@Ax.sidsL.eq_1,@Ax.sidsL.eq_2,@Ax.AV.sidsH.eq_1,@Ax.AV.sidsH.eq_2,@Ax.AV.sidsH.eq_3,@Ax.AV.sidsH.eq_4,@Ax.AV.sidsH.eq_5,@Ax.AV.sidsH.eq_6,@Ax.sidsLH.eq_1,@Ax.sidsLH.eq_2,@Ax.Blk.renB.eq_1,@Ax.idxOf.eq_1,@Ax.EndsXO.eq_1,@Ax.endIds.eq_1,@Ax.reachE.eq_1,@Ax.reachE.eq_2,@Ax.reachE.eq_3,@Ax.idsAt.eq_1,@Ax.idsAtL.eq_1,@Ax.idsAtL.eq_2,@Ax.walkI.eq_1,@Ax.walkI.eq_2,@Ax.matchE.eq_1,@Ax.matchE.eq_2,@Ax.matchE.eq_3,@Ax.aopF.eq_1,@Ax.foot.eq_1,@Ax.footA.eq_1,@Ax.keepIn.eq_1,@Ax.keepIn.eq_2,@Ax.dropIn.eq_1,@Ax.dropIn.eq_2,@Ax.bids.eq_1,@Ax.bids.eq_2,@Ax.heldB.eq_1,@Ax.memOk.eq_1,@Ax.clearOf.eq_1⟩
open Ax
attribute [go_sem] evDO evTO zoe znr zcl firmB Blk.isGone Blk.idsB Blk.sidsB Blk.ren EndsO
attribute [go_sem ↓] openKO_def
end Go.Proofs.Ytolclgkginfiaaa
namespace Go.Proofs.Ytolclgkginfiaaa
namespace Ax
abbrev Us := List (Nat × Option Blk)
def upd : Us → (Nat → Option Blk) → Nat → Option Blk
 | [],lk,id => lk id
 | (k,b) :: r,lk,id => if k = id then b else upd r lk id
def Told (o : Out) (lk : Nat → Option Blk) (r : Option (AV × Us)) : Prop := ∀ x us,r = some (x,us) → o.p ∧ o.x = x ∧ ∀ id,look o.H id = upd us lk id
section
variable {H : Heap} {lk : Nat → Option Blk} (hl : ∀ id,look H id = lk id)
def csub (ti : TyI) (ls : List AV) (f : Nat) : Option AV :=
 bif ti.d.aggr then (if f + ti.size ≤ ls.length then some (.agg ((ls.drop f).take ti.size)) else none) else (if f < ls.length then some (slot ls f) else none)
theorem zmy {ti : TyI} {ls : List AV} {f : Nat} {x : AV} (h : csub ti ls f = some x) : (subv ti ls f H).p ∧ (subv ti ls f H).x = x ∧ (subv ti ls f H).H = H := by
 unfold csub at h
 unfold subv
 cases ha : ti.d.aggr <;> simp only [ha,cond_true,cond_false] at h ⊢ <;> split at h <;> simp_all
def cLoad (T : zab) (t : TypeId) (x : AV) (lk : Nat → Option Blk) : Option (AV × Us) :=
 match T t with
 | none => none
 | some ti => match x with
   | .cp ls => (csub ti ls 0).map fun y => (y,[])
   | .rf id s i f => match lk id with
     | some blk => bif zlj ti blk then (if s = 1 ∧ f = 0 then (csub ti blk.flat i).map fun y => (y,[]) else none) else (if s = blk.size ∧ i < blk.len then (csub ti (zai blk i) f).map fun y => (y,[]) else none)
     | none => none
   | _ => none
include hl in
theorem cLoad_ok {T : zab} {t : TypeId} {x : AV} : Told (aLoad T t x H) lk (cLoad T t x lk) := by
 intro y us h
 unfold cLoad at h
 unfold aLoad
 split at h
 · cases h
 · rename_i ti ht
   simp only [ht]
   split at h
   · obtain ⟨z,hz,he⟩ := Option.map_eq_some_iff.1 h
     injection he with h1 h2; subst h1 h2
     obtain ⟨a,b,c⟩ := zmy (H := H) hz
     exact ⟨a,b,fun id => by rw [c]; exact hl id⟩
   · rename_i id s i f
     simp only [hl id]
     split at h
     · rename_i blk hb
       simp only [hb]
       cases hm : zlj ti blk <;> simp only [hm,cond_true,cond_false] at h ⊢
       all_goals
         split at h
         · rename_i hc
           obtain ⟨z,hz,he⟩ := Option.map_eq_some_iff.1 h
           injection he with h1 h2; subst h1 h2
           obtain ⟨a,b,c⟩ := zmy (H := H) hz
           exact ⟨⟨hc,a⟩,b,fun id => by simp only [Out.and]; rw [c]; exact hl id⟩
         · cases h
     · cases h
   · cases h
def csetB (blk : Blk) (i f : Nat) (x : AV) : Option Blk :=
 match blk with
 | .b bs => match x with
   | .w (.int .u8 m) => if f = 0 ∧ 0 ≤ m ∧ m < 256 then some (.b (bs.set i (UInt8.ofNat m.toNat))) else none
   | _ => none
 | .i ns => match x with
   | .w (.int .i64 m) => if f = 0 then some (.i (ns.set i m)) else none
   | _ => none
 | .g s xs => match slot xs i with
   | .agg ls => if f + x.leaves.length ≤ ls.length then some (.g s (setSlot xs i (.agg (splice ls f x.leaves)))) else none
   | _ => if f = 0 ∧ x.leaf = true then some (.g s (setSlot xs i x)) else none
 | .o _ => none
theorem csetB_ok {blk : Blk} {i f : Nat} {x : AV} {b : Blk} (h : csetB blk i f x = some b) : (setB blk i f x).1 ∧ (setB blk i f x).2 = b := by
 cases blk with
 | b bs =>
   simp only [csetB] at h
   simp only [setB]
   split at h
   · split at h <;> simp_all
   · cases h
 | i ns =>
   simp only [csetB] at h
   simp only [setB]
   split at h
   · split at h <;> simp_all
   · cases h
 | g s xs =>
   simp only [csetB] at h
   simp only [setB]
   cases hs : slot xs i <;> simp only [hs] at h ⊢ <;> split at h <;> simp_all
 | o x => cases h
def clayB (blk : Blk) (i : Nat) (x : AV) : Option Blk :=
 match blk with
 | .b bs => match zpx x.leaves with
   | some ys => if i + ys.length ≤ bs.length ∧ 0 < ys.length then some (.b (bs.take i ++ (ys ++ bs.drop (i + ys.length)))) else none
   | none => none
 | _ => none
theorem clayB_ok {blk : Blk} {i : Nat} {x : AV} {b : Blk} (h : clayB blk i x = some b) : (layB blk i x).1 ∧ (layB blk i x).2 = b := by
 unfold clayB at h
 unfold layB
 split at h
 · split at h
   · rename_i ys hy
     split at h
     · rename_i hc
       injection h with h
       simp only [hy]
       exact ⟨hc,h⟩
     · cases h
   · cases h
 · cases h
def cStore (T : zab) (t : TypeId) (p x : AV) (lk : Nat → Option Blk) : Option (AV × Us) :=
 match T t,p with
 | some ti,.rf id s i f => match lk id with
   | some blk => bif zlj ti blk then (if s = 1 ∧ f = 0 ∧ x.leaves.length = ti.size ∧ x.okv = true then (clayB blk i x).map fun b => (.junk,[(id,some b)]) else none) else if s = blk.size ∧ i < blk.len ∧ x.leaves.length = ti.size ∧ x.okv = true then (csetB blk i f x).map fun b => (.junk,[(id,some b)]) else none
   | none => none
 | _,_ => none
theorem zan (hl : ∀ id,look H id = lk id) {nm : Nat} {b : Blk} (id : Nat) : look (put H nm b) id = upd [(nm,some b)] lk id := by
 rw [zat]; simp only [upd]; split <;> simp [hl]
include hl in
theorem cStore_ok {T : zab} {t : TypeId} {p x : AV} : Told (zjz T t p x H) lk (cStore T t p x lk) := by
 intro y us h
 unfold cStore at h
 unfold zjz
 split at h
 · rename_i ti id s i f ht
   simp only [ht,hl id]
   split at h
   · rename_i blk hb
     simp only [hb]
     cases hm : zlj ti blk <;> simp only [hm,cond_true,cond_false] at h ⊢
     case true =>
       split at h
       · rename_i hc
         obtain ⟨z,hz,he⟩ := Option.map_eq_some_iff.1 h
         injection he with h1 h2; subst h1 h2
         obtain ⟨a,b⟩ := clayB_ok hz
         refine ⟨⟨hc.1,hc.2.1,hc.2.2.1,hc.2.2.2,a⟩,rfl,fun k => ?_⟩
         rw [b]; exact zan hl k
       · cases h
     split at h
     · rename_i hc
       obtain ⟨z,hz,he⟩ := Option.map_eq_some_iff.1 h
       injection he with h1 h2; subst h1 h2
       obtain ⟨a,b⟩ := csetB_ok hz
       refine ⟨⟨hc.1,hc.2.1,hc.2.2.1,hc.2.2.2,a⟩,rfl,fun k => ?_⟩
       rw [b]; exact zan hl k
     · cases h
   · cases h
 · cases h
def cPick (c a b : AV) : Option (AV × Us) :=
 match c with
 | .w (.bool t) => match a,b with
   | .w (.bool x),.w (.bool y) => some (.w (.bool (bif t then x else y)),[])
   | _,.w (.bool y) => if t = false then some (.w (.bool y),[]) else none
   | .w (.bool x),_ => if t = true then some (.w (.bool x),[]) else none
   | _,_ => none
 | _ => none
include hl in
theorem cPick_ok {c a b : AV} : Told (zqz c a b H) lk (cPick c a b) := by
 intro y us h
 have key : ∀ t,cPick (.w (.bool t)) a b = some (y,us) → (zqz (.w (.bool t)) a b H).p ∧ (zqz (.w (.bool t)) a b H).x = y ∧ ∀ id,look (zqz (.w (.bool t)) a b H).H id = upd us lk id := by
   intro t h
   rcases hb : b with v | _ | _ | _ | _ | _ | _ | _ | _ | _ | _ | _ <;> subst hb <;> (try rcases hv : v with x | _ | _ | _ | _ | _ | _ | _ | _ | _ | _ | _ | _ | _ | _) <;> (try subst hv) <;>
     rcases ha : a with u | _ | _ | _ | _ | _ | _ | _ | _ | _ | _ | _ <;> subst ha <;> (try rcases hu : u with z | _ | _ | _ | _ | _ | _ | _ | _ | _ | _ | _ | _ | _ | _) <;> (try subst hu) <;>
     simp only [cPick] at h <;> first | (cases h; done) | (split at h <;> first | (cases h; done) | (injection h with h; injection h with h1 h2; subst h1 h2; exact ⟨by assumption,rfl,hl⟩)) | (injection h with h; injection h with h1 h2; subst h1 h2; exact ⟨trivial,rfl,hl⟩)
 unfold cPick at h
 split at h
 · exact key _ h
 · cases h
def cAlloc (T : zab) (nm : Nat) (e : TypeId) : Option (AV × Us) :=
 match T e with
 | some ti => bif zkv ti then (if 0 < ti.size then some (.rf nm 1 0 0,[(nm,some (.b (List.replicate ti.size 0)))]) else none) else (if 0 < ti.size then some (.rf nm ti.size 0 0,[(nm,some (.g ti.size [asv ti ti.zero]))]) else none)
 | none => none
include hl in
theorem cAlloc_ok {T : zab} {nm : Nat} {e : TypeId} : Told (aAlloc T nm e H) lk (cAlloc T nm e) := by
 intro y us h
 unfold cAlloc at h
 unfold aAlloc
 split at h
 · rename_i ti ht
   simp only [ht]
   cases hm : zkv ti <;> simp only [hm,cond_true,cond_false] at h ⊢
   all_goals
     split at h
     · injection h with h; injection h with h1 h2; subst h1 h2
       exact ⟨by assumption,rfl,fun id => zan hl id⟩
     · cases h
 · cases h
def cBox (T : zab) (nm : Nat) (e : TypeId) (x : AV) : Option (AV × Us) :=
 match T e with
 | some ti => if 0 < ti.size ∧ x.leaves.length = ti.size ∧ x.okv = true then some (.rf nm ti.size 0 0,[(nm,some (.g ti.size [x]))]) else none
 | none => none
include hl in
theorem cBox_ok {T : zab} {nm : Nat} {e : TypeId} {x : AV} : Told (aBox T nm e x H) lk (cBox T nm e x) := by
 intro y us h
 unfold cBox at h
 unfold aBox
 split at h
 · rename_i ti ht
   simp only [ht]
   split at h
   · injection h with h; injection h with h1 h2; subst h1 h2
     exact ⟨by assumption,rfl,fun id => zan hl id⟩
   · cases h
 · cases h
def cfillS (T : zab) (fs : List (Nat × TypeId)) : List (Nat × AV) → List AV → Option (List AV)
 | [],ls => some ls
 | (i,x) :: r,ls => match fs[i]? with
   | some (off,ty) => match T ty with
     | some ti => if x.leaves.length = ti.size ∧ x.okv = true ∧ off + ti.size ≤ ls.length then cfillS T fs r (splice ls off x.leaves) else none
     | none => none
   | none => none
theorem zxd {T : zab} {fs : List (Nat × TypeId)} : ∀ {ps : List (Nat × AV)} {ls zs : List AV},cfillS T fs ps ls = some zs → (fillS T fs ps ls).1 ∧ (fillS T fs ps ls).2 = zs
 | [],ls,zs,h => by injection h with h; exact ⟨trivial,h⟩
 | (i,x) :: r,ls,zs,h => by
   unfold cfillS at h
   unfold fillS
   split at h
   · rename_i off ty hi
     simp only [hi]
     split at h
     · rename_i ti ht
       simp only [ht]
       split at h
       · rename_i hc
         obtain ⟨h1,h2⟩ := zxd h
         exact ⟨⟨hc.1,hc.2.1,hc.2.2,h1⟩,h2⟩
       · cases h
     · cases h
   · cases h
def cfillA (s : Nat) : List (Nat × AV) → List AV → Option (List AV)
 | [],ls => some ls
 | (i,x) :: r,ls => if x.leaves.length = s ∧ x.okv = true ∧ i * s + s ≤ ls.length then cfillA s r (splice ls (i * s) x.leaves) else none
theorem zxh {s : Nat} : ∀ {ps : List (Nat × AV)} {ls zs : List AV},cfillA s ps ls = some zs → (zqv s ps ls).1 ∧ (zqv s ps ls).2 = zs
 | [],ls,zs,h => by injection h with h; exact ⟨trivial,h⟩
 | (i,x) :: r,ls,zs,h => by
   unfold cfillA at h
   unfold zqv
   split at h
   · rename_i hc
     obtain ⟨h1,h2⟩ := zxh h
     exact ⟨⟨hc.1,hc.2.1,hc.2.2,h1⟩,h2⟩
   · cases h
def zxk (T : zab) : List (Nat × TypeId) → Bool
 | [] => true
 | p :: r => match T p.2 with
   | some _ => zxk T r
   | none => false
theorem zxj {T : zab} : ∀ {l : List (Nat × TypeId)},zxk T l = true → allTy T l
 | [],_ => trivial
 | p :: r,h => by
   unfold zxk at h
   unfold allTy
   split at h
   · rename_i x hx; simp only [hx]; exact zxj h
   · cases h
def cBuild (T : zab) (t : TypeId) (ps : List (Nat × AV)) : Option (AV × Us) :=
 match T t with
 | some ti => match ti.d with
   | .struct fs => bif zxk T fs then (cfillS T fs ps ti.zero).map fun l => (.agg l,[]) else none
   | .arr _ e => match T e with
     | some te => (cfillA te.size ps ti.zero).map fun l => (.agg l,[])
     | none => none
   | _ => none
 | none => none
include hl in
theorem cBuild_ok {T : zab} {t : TypeId} {ps : List (Nat × AV)} : Told (aBuild T t ps H) lk (cBuild T t ps) := by
 intro y us h
 unfold cBuild at h
 unfold aBuild
 split at h
 · rename_i ti ht
   simp only [ht]
   split at h
   · rename_i fs hd
     simp only [hd]
     cases hc : zxk T fs with
     | false => rw [hc] at h; cases h
     | true =>
       rw [hc] at h
       obtain ⟨z,hz,he⟩ := Option.map_eq_some_iff.1 h
       injection he with h1 h2; subst h1 h2
       obtain ⟨a,b⟩ := zxd hz
       exact ⟨⟨zxj hc,a⟩,by rw [b],hl⟩
   · rename_i n e hd
     simp only [hd]
     split at h
     · rename_i te hte
       simp only [hte]
       obtain ⟨z,hz,he⟩ := Option.map_eq_some_iff.1 h
       injection he with h1 h2; subst h1 h2
       obtain ⟨a,b⟩ := zxh hz
       exact ⟨a,by rw [b],hl⟩
     · cases h
   · cases h
 · cases h
def cfillB : List (Nat × AV) → List UInt8 → Option (List UInt8)
 | [],bs => some bs
 | (i,x) :: r,bs => match x with
   | .w (.int .u8 m) => if i < bs.length ∧ 0 ≤ m ∧ m < 256 then cfillB r (bs.set i (UInt8.ofNat m.toNat)) else none
   | _ => none
theorem zxg : ∀ {ps : List (Nat × AV)} {ls zs : List UInt8},cfillB ps ls = some zs → (fillB ps ls).1 ∧ (fillB ps ls).2 = zs
 | [],ls,zs,h => by injection h with h; exact ⟨trivial,h⟩
 | (i,x) :: r,ls,zs,h => by
   unfold cfillB at h
   unfold fillB
   split at h
   · split at h
     · rename_i hc
       obtain ⟨h1,h2⟩ := zxg h
       exact ⟨⟨hc.1,hc.2.1,hc.2.2,h1⟩,h2⟩
     · cases h
   · cases h
def cfillI : List (Nat × AV) → List Int → Option (List Int)
 | [],ns => some ns
 | (i,x) :: r,ns => match x with
   | .w (.int .i64 m) => if i < ns.length then cfillI r (ns.set i m) else none
   | _ => none
theorem zxe : ∀ {ps : List (Nat × AV)} {ls zs : List Int},cfillI ps ls = some zs → (fillI ps ls).1 ∧ (fillI ps ls).2 = zs
 | [],ls,zs,h => by injection h with h; exact ⟨trivial,h⟩
 | (i,x) :: r,ls,zs,h => by
   unfold cfillI at h
   unfold fillI
   split at h
   · split at h
     · rename_i hc
       obtain ⟨h1,h2⟩ := zxe h
       exact ⟨⟨hc,h1⟩,h2⟩
     · cases h
   · cases h
def cfillG (s : Nat) : List (Nat × AV) → List AV → Option (List AV)
 | [],xs => some xs
 | (i,x) :: r,xs => if i < xs.length ∧ x.leaves.length = s ∧ x.okv = true then cfillG s r (setSlot xs i x) else none
theorem zxf {s : Nat} : ∀ {ps : List (Nat × AV)} {ls zs : List AV},cfillG s ps ls = some zs → (fillG s ps ls).1 ∧ (fillG s ps ls).2 = zs
 | [],ls,zs,h => by injection h with h; exact ⟨trivial,h⟩
 | (i,x) :: r,ls,zs,h => by
   unfold cfillG at h
   unfold fillG
   split at h
   · rename_i hc
     obtain ⟨h1,h2⟩ := zxf h
     exact ⟨⟨hc.1,hc.2.1,hc.2.2,h1⟩,h2⟩
   · cases h
def isZ (k : IntKind) : List AV → Bool
 | [.w (.int k' n)] => decide (k' = k) && decide (n = 0)
 | _ => false
theorem zvt {k : IntKind} {l : List AV} (h : isZ k l = true) : l = [.w (.int k 0)] := by
 unfold isZ at h
 split at h
 · simp only [Bool.and_eq_true,decide_eq_true_eq] at h
   obtain ⟨rfl,rfl⟩ := h; rfl
 · cases h
def zhn (T : zab) (nm : Nat) (t : TypeId) (n : Nat) (ps : List (Nat × AV)) : Option (AV × Us) :=
 match T t with
 | some ti => match ti.d with
   | .slice e => match T e with
     | some te => match te.d with
       | .int .u8 => if te.size = 1 ∧ isZ .u8 te.zero = true ∧ n ≤ 16777216 then (cfillB ps (List.replicate n 0)).map fun l => (.ms nm 1 0 n,[(nm,some (.b l))]) else none
       | .int .i64 => if te.size = 1 ∧ isZ .i64 te.zero = true ∧ n ≤ 16777216 then (cfillI ps (List.replicate n 0)).map fun l => (.ms nm 1 0 n,[(nm,some (.i l))]) else none
       | _ => if 0 < te.size ∧ n * te.size ≤ 16777216 then (cfillG te.size ps (List.replicate n (asv te te.zero))).map fun l => (.ms nm te.size 0 n,[(nm,some (.g te.size l))]) else none
     | none => none
   | _ => none
 | none => none
include hl in
theorem zqx {T : zab} {nm : Nat} {t : TypeId} {n : Nat} {ps : List (Nat × AV)} : Told (aBuildSlice T nm t n ps H) lk (zhn T nm t n ps) := by
 intro y us h
 unfold zhn at h
 unfold aBuildSlice
 split at h
 · rename_i ti ht
   simp only [ht]
   split at h
   · rename_i e hd
     simp only [hd]
     split at h
     · rename_i te hte
       simp only [hte]
       split at h
       · rename_i hk
         simp only [hk]
         split at h
         · rename_i hc
           obtain ⟨z,hz,he⟩ := Option.map_eq_some_iff.1 h
           injection he with h1 h2; subst h1 h2
           obtain ⟨a,b⟩ := zxg hz
           exact ⟨⟨hc.1,zvt hc.2.1,hc.2.2,a⟩,rfl,fun id => by rw [b]; exact zan hl id⟩
         · cases h
       · rename_i hk
         simp only [hk]
         split at h
         · rename_i hc
           obtain ⟨z,hz,he⟩ := Option.map_eq_some_iff.1 h
           injection he with h1 h2; subst h1 h2
           obtain ⟨a,b⟩ := zxe hz
           exact ⟨⟨hc.1,zvt hc.2.1,hc.2.2,a⟩,rfl,fun id => by rw [b]; exact zan hl id⟩
         · cases h
       · rename_i hk1 hk2
         split
         · rename_i he; exact (hk1 he).elim
         · rename_i he; exact (hk2 he).elim
         · split at h
           · rename_i hc
             obtain ⟨z,hz,he⟩ := Option.map_eq_some_iff.1 h
             injection he with h1 h2; subst h1 h2
             obtain ⟨a,b⟩ := zxf hz
             exact ⟨⟨hc.1,hc.2,a⟩,rfl,fun id => by rw [b]; exact zan hl id⟩
           · cases h
     · cases h
   · cases h
 · cases h
def cNil (x : AV) (lk : Nat → Option Blk) : Option (AV × Us) :=
 match x with
 | .rf id s i f => match lk id with
   | some _ => if s ≠ 0 then some (.rf id s i f,[]) else none
   | none => none
 | .cp ls => some (.cp ls,[])
 | .fn f cs => some (.fn f cs,[])
 | _ => none
include hl in
theorem cNil_ok {x : AV} : Told (aNil x H) lk (cNil x lk) := by
 intro y us h
 unfold cNil at h
 unfold aNil
 split at h
 · rename_i id s i f
   simp only [hl id]
   split at h
   · rename_i b hb
     simp only [hb]
     split at h
     · injection h with h; injection h with h1 h2; subst h1 h2
       exact ⟨by assumption,rfl,hl⟩
     · cases h
   · cases h
 · injection h with h; injection h with h1 h2; subst h1 h2; exact ⟨trivial,rfl,hl⟩
 · injection h with h; injection h with h1 h2; subst h1 h2; exact ⟨trivial,rfl,hl⟩
 · cases h
def cInt (op : BinOp) (k : IntKind) (a : Int) (k' : IntKind) (b : Int) : Option Value :=
 match op with
 | .shl => if 0 ≤ b then some (.int k (k.wrap (a * 2 ^ min b.toNat k.bits))) else none
 | .shr => if 0 ≤ b then some (.int k (a / 2 ^ min b.toNat k.bits)) else none
 | .add => if k = k' then some (.int k (k.wrap (a + b))) else none
 | .sub => if k = k' then some (.int k (k.wrap (a - b))) else none
 | .mul => if k = k' then some (.int k (k.wrap (a * b))) else none
 | .quo => if k = k' ∧ b ≠ 0 then some (.int k (k.wrap (a.tdiv b))) else none
 | .rem => if k = k' ∧ b ≠ 0 then some (.int k (a.tmod b)) else none
 | .and => if k = k' then some (.int k (bits .and k a b)) else none
 | .or => if k = k' then some (.int k (bits .or k a b)) else none
 | .xor => if k = k' then some (.int k (bits .xor k a b)) else none
 | .andNot => if k = k' then some (.int k (bits .andNot k a b)) else none
 | .eql => if k = k' then some (.bool (decide (a = b))) else none
 | .neq => if k = k' then some (.bool (!decide (a = b))) else none
 | .lss => if k = k' then some (.bool (decide (a < b))) else none
 | .leq => if k = k' then some (.bool (decide (a ≤ b))) else none
 | .gtr => if k = k' then some (.bool (decide (b < a))) else none
 | .geq => if k = k' then some (.bool (decide (b ≤ a))) else none
theorem cInt_ok {op : BinOp} {k k' : IntKind} {a b : Int} {v : Value} (h : cInt op k a k' b = some v) : (aInt op k a k' b).1 ∧ (aInt op k a k' b).2 = v := by
 cases op <;> simp only [cInt] at h <;> simp only [aInt] <;> split at h <;> first | (injection h with h; exact ⟨by assumption,h⟩) | cases h
def cStr (op : BinOp) (a b : List UInt8) : Option AV :=
 match op with
 | .add => if a.length + b.length ≤ 1099511627776 then some (.str (a ++ b)) else none
 | .eql => some (.w (.bool (decide (a = b))))
 | .neq => some (.w (.bool (!decide (a = b))))
 | .lss => some (.w (.bool (Op.bytesLess a b)))
 | .leq => some (.w (.bool (Op.bytesLess a b || decide (a = b))))
 | .gtr => some (.w (.bool (!(Op.bytesLess a b || decide (a = b)))))
 | .geq => some (.w (.bool (!(Op.bytesLess a b))))
 | _ => none
theorem cStr_ok {op : BinOp} {a b : List UInt8} {v : AV} (h : cStr op a b = some v) : (aStr op a b).1 ∧ (aStr op a b).2 = v := by
 cases op <;> simp only [cStr] at h <;> simp only [aStr] <;> first | cases h | (split at h <;> first | cases h | (injection h with h; exact ⟨by assumption,h⟩)) | (injection h with h; exact ⟨trivial,h⟩)
 all_goals first | exact ⟨trivial,rfl⟩ | trivial
def cEq (op : BinOp) (r : Bool) : Option (AV × Us) :=
 match op with
 | .eql => some (.w (.bool r),[])
 | .neq => some (.w (.bool (!r)),[])
 | _ => none
include hl in
theorem cEq_ok {op : BinOp} {r : Bool} : Told (aEq op r H) lk (cEq op r) := by
 intro y us h
 cases op <;> simp only [cEq] at h <;> first | cases h | skip
 all_goals (exact ⟨trivial,rfl,hl⟩)
def cisPtr (T : zab) (t : TypeId) : Bool :=
 match T t with
 | some ti => match ti.d with
   | .ptr => true
   | _ => false
 | none => false
theorem zwz {T : zab} {t : TypeId} (h : cisPtr T t = true) : isPtr T t := by
 unfold cisPtr at h; unfold isPtr; split at h
 · rename_i ti ht; simp only [ht]; split at h
   · rename_i hd; simp only [hd]
   · cases h
 · cases h
def cisBool (T : zab) (t : TypeId) : Bool :=
 match T t with
 | some ti => match ti.d with
   | .bool => true
   | _ => false
 | none => false
theorem cisBool_ok {T : zab} {t : TypeId} (h : cisBool T t = true) : isBool T t := by
 unfold cisBool at h; unfold isBool; split at h
 · rename_i ti ht; simp only [ht]; split at h
   · rename_i hd; simp only [hd]
   · cases h
 · cases h
def zlz (T : zab) (t : TypeId) : Bool :=
 match T t with
 | some ti => match ti.d with
   | .struct _ => true
   | _ => false
 | none => false
theorem zwy {T : zab} {t : TypeId} (h : zlz T t = true) : isStruct T t := by
 unfold zlz at h; unfold isStruct; split at h
 · rename_i ti ht; simp only [ht]; split at h
   · rename_i hd; simp only [hd]
   · cases h
 · cases h
def ceqF (S : TypeId → AV → AV → Option Bool) (T : zab) : List (Nat × TypeId) → List AV → List AV → Option Bool
 | [],_,_ => some true
 | p :: r,xs,ys => match T p.2 with
   | none => none
   | some te => match csub te xs p.1,csub te ys p.1 with
     | some a,some b => match S p.2 a b with
       | some u => match ceqF S T r xs ys with
         | some v => some (u && v)
         | none => none
       | none => none
     | _,_ => none
def ceqV (T : zab) : Nat → TypeId → AV → AV → Option Bool
 | 0,_,_,_ => none
 | n + 1,t,x,y => match T t with
   | none => none
   | some i => match i.d with
     | .int _ => match x,y with
       | .w (.int k1 a),.w (.int k2 b) => if k1 = k2 then some (decide (a = b)) else none
       | _,_ => none
     | .bool => match x,y with
       | .w (.bool a),.w (.bool b) => some (a == b)
       | _,_ => none
     | .str => match x,y with
       | .str a,.str b => some (decide (a = b))
       | _,_ => none
     | .struct fs => match x,y with
       | .agg xs,.agg ys => ceqF (ceqV T n) T fs xs ys
       | _,_ => none
     | _ => none
theorem ceqF_ok {T : zab} {S : TypeId → AV → AV → Prop × Bool} {S' : TypeId → AV → AV → Option Bool} (hS : ∀ t x y b,S' t x y = some b → (S t x y).1 ∧ (S t x y).2 = b) :
   ∀ {fs : List (Nat × TypeId)} {xs ys : List AV} {b : Bool},ceqF S' T fs xs ys = some b → (eqF S T fs xs ys).1 ∧ (eqF S T fs xs ys).2 = b
 | [],xs,ys,b,h => by injection h with h; exact ⟨trivial,h⟩
 | p :: r,xs,ys,b,h => by
   unfold ceqF at h
   unfold eqF
   split at h
   · cases h
   · rename_i te ht
     simp only [ht]
     split at h
     · rename_i a c ha hc
       split at h
       · rename_i u hu
         split at h
         · rename_i v hv
           injection h with h
           obtain ⟨a1,a2,_⟩ := zmy (H := []) ha
           obtain ⟨b1,b2,_⟩ := zmy (H := []) hc
           obtain ⟨c1,c2⟩ := hS _ _ _ _ hu
           obtain ⟨d1,d2⟩ := ceqF_ok hS hv
           rw [a2,b2]
           exact ⟨⟨a1,b1,c1,d1⟩,by rw [c2,d2,h]⟩
         · cases h
       · cases h
     · cases h
theorem zpw {T : zab} : ∀ (n : Nat) (t : TypeId) (x y : AV) (b : Bool),ceqV T n t x y = some b → (eqV T n t x y).1 ∧ (eqV T n t x y).2 = b
 | 0,t,x,y,b,h => by cases h
 | n + 1,t,x,y,b,h => by
   unfold ceqV at h
   unfold eqV
   split at h
   · cases h
   · rename_i i hi
     simp only [hi]
     split at h
     · rename_i hd
       simp only [hd]
       split at h
       · split at h
         · injection h with h; exact ⟨by assumption,h⟩
         · cases h
       · cases h
     · rename_i hd
       simp only [hd]
       split at h
       · injection h with h; exact ⟨trivial,h⟩
       · cases h
     · rename_i hd
       simp only [hd]
       split at h
       · injection h with h; exact ⟨trivial,h⟩
       · cases h
     · rename_i hd
       simp only [hd]
       split at h
       · exact ceqF_ok (zpw n) h
       · cases h
     · cases h
def cBin (T : zab) (op : BinOp) (t : TypeId) (x y : AV) (lk : Nat → Option Blk) : Option (AV × Us) :=
 match x,y with
 | .w (.int k a),.w (.int k' b) => (cInt op k a k' b).map fun v => (.w v,[])
 | .str a,.str b => (cStr op a b).map fun v => (v,[])
 | .w (.bool a),.w (.bool b) => bif cisBool T t then cEq op (a == b) else none
 | .rf id s _ _,.w (.pointer none) => match lk id with
   | some _ => bif decide (s ≠ 0) && cisPtr T t then cEq op false else none
   | none => none
 | .w (.pointer none),.w (.pointer none) => bif cisPtr T t then cEq op true else none
 | .agg xs,.agg ys => match ceqV T 4 t (.agg xs) (.agg ys) with
   | some r => bif zlz T t then cEq op r else none
   | none => none
 | _,_ => none
theorem Told.and {q : Prop} {o : Out} {r : Option (AV × Us)} (h : Told o lk r) (hq : q) : Told (o.and q) lk r := fun x us e => let ⟨a,b,c⟩ := h x us e; ⟨⟨hq,a⟩,b,c⟩
theorem Told.cond {q : Prop} {b : Bool} {o : Out} {r : Option (AV × Us)} (h : Told o lk r) (hq : b = true → q) : Told (o.and q) lk (bif b then r else none) := by
 cases b with
 | true => exact h.and (hq rfl)
 | false => intro x us e; cases e
include hl in
theorem cBin_ok {T : zab} {op : BinOp} {t : TypeId} {x y : AV} : Told (aBin T op t x y H) lk (cBin T op t x y lk) := by
 intro z us h
 unfold cBin at h
 split at h
 · obtain ⟨v,hv,he⟩ := Option.map_eq_some_iff.1 h
   injection he with h1 h2; subst h1 h2
   obtain ⟨a,b⟩ := cInt_ok hv
   exact ⟨a,by simp only [aBin,b],hl⟩
 · obtain ⟨v,hv,he⟩ := Option.map_eq_some_iff.1 h
   injection he with h1 h2; subst h1 h2
   obtain ⟨a,b⟩ := cStr_ok hv
   exact ⟨a,b,hl⟩
 · exact ((cEq_ok hl).cond (q := isBool T t) cisBool_ok) z us h
 · rename_i id s _ _
   split at h
   · rename_i bk hb
     have hb' : look H id = some bk := (hl id).trans hb
     have := ((cEq_ok hl).cond (q := s ≠ 0 ∧ isPtr T t) fun h => by
       simp only [Bool.and_eq_true,decide_eq_true_eq] at h
       exact ⟨h.1,zwz h.2⟩) z us h
     simp only [aBin,hb']
     exact this
   · cases h
 · exact ((cEq_ok hl).cond (q := isPtr T t) zwz) z us h
 · rename_i xs ys
   split at h
   · rename_i r hr
     obtain ⟨a,b⟩ := zpw _ _ _ _ _ hr
     simp only [aBin]
     rw [b]
     cases hc : zlz T t with
     | true =>
       rw [hc] at h
       exact (cEq_ok hl).and ⟨zwy hc,a⟩ z us h
     | false => rw [hc] at h; cases h
   · cases h
 · cases h
def cUn (op : UnOp) (x : AV) : Option (AV × Us) :=
 match op,x with
 | .not,.w (.bool b) => some (.w (.bool (!b)),[])
 | .neg,.w (.int k n) => some (.w (.int k (k.wrap (0 - n))),[])
 | .xor,.w (.int k n) => some (.w (.int k (bits .xor k (bif k.signed then -1 else k.max) n)),[])
 | _,_ => none
include hl in
theorem cUn_ok {op : UnOp} {x : AV} : Told (aUn op x H) lk (cUn op x) := by
 intro y us h
 unfold cUn at h
 unfold aUn
 split at h <;> first | cases h | (injection h with h; injection h with h1 h2; subst h1 h2; exact ⟨trivial,rfl,hl⟩)
 all_goals exact ⟨trivial,rfl,hl⟩
def zwr (lk : Nat → Option Blk) (x : AV) : Option (List UInt8) :=
 match x with
 | .sb bs _ => some bs
 | .sg _ [] _ => some []
 | .ms id s off len => match lk id with
   | some (.b bs) => if s = 1 ∧ off + len ≤ bs.length then some ((bs.drop off).take len) else none
   | _ => none
 | _ => none
include hl in
theorem zpq {x : AV} {l : List UInt8} (h : zwr lk x = some l) : (zex H x).1 ∧ (zex H x).2 = l := by
 unfold zwr at h
 unfold zex
 split at h
 · injection h with h; exact ⟨trivial,h⟩
 · injection h with h; exact ⟨trivial,h⟩
 · rename_i id s off len
   simp only [hl id]
   split at h
   · rename_i bs hb
     simp only [hb]
     split at h
     · injection h with h; exact ⟨by assumption,h⟩
     · cases h
   · cases h
 · cases h
def cviewI (lk : Nat → Option Blk) (x : AV) : Option (List Int) :=
 match x with
 | .si ns _ => some ns
 | .sg _ [] _ => some []
 | .ms id s off len => match lk id with
   | some (.i ns) => if s = 1 ∧ off + len ≤ ns.length then some ((ns.drop off).take len) else none
   | _ => none
 | _ => none
include hl in
theorem cviewI_ok {x : AV} {l : List Int} (h : cviewI lk x = some l) : (zhu H x).1 ∧ (zhu H x).2 = l := by
 unfold cviewI at h
 unfold zhu
 split at h
 · injection h with h; exact ⟨trivial,h⟩
 · injection h with h; exact ⟨trivial,h⟩
 · rename_i id s off len
   simp only [hl id]
   split at h
   · rename_i bs hb
     simp only [hb]
     split at h
     · injection h with h; exact ⟨by assumption,h⟩
     · cases h
   · cases h
 · cases h
def cviewG (s : Nat) (lk : Nat → Option Blk) (x : AV) : Option (List AV) :=
 match x with
 | .sg s' xs _ => bif xs.isEmpty || decide (s' = s) then some xs else none
 | .ms id s' off len => match lk id with
   | some (.g s'' xs) => if s' = s ∧ s'' = s ∧ off + len ≤ xs.length then some ((xs.drop off).take len) else none
   | _ => none
 | _ => none
include hl in
theorem cviewG_ok {s : Nat} {x : AV} {l : List AV} (h : cviewG s lk x = some l) : (zew s H x).1 ∧ (zew s H x).2 = l := by
 unfold cviewG at h
 unfold zew
 split at h
 · rename_i s' xs f
   cases hc : xs.isEmpty || decide (s' = s) with
   | true =>
     rw [hc] at h
     injection h with h
     refine ⟨?_,h⟩
     simp only [Bool.or_eq_true,List.isEmpty_iff,decide_eq_true_eq] at hc
     exact hc
   | false => rw [hc] at h; cases h
 · rename_i id s off len
   simp only [hl id]
   split at h
   · rename_i bs hb
     simp only [hb]
     split at h
     · injection h with h; exact ⟨by assumption,h⟩
     · cases h
   · cases h
 · cases h
def zfx (T : zab) (t : TypeId) : Bool :=
 match T t with
 | some ti => match ti.d with
   | .slice e => match T e with
     | some te => match te.d with
       | .int .u8 => true
       | _ => false
     | none => false
   | _ => false
 | none => false
theorem zkt {T : zab} {t : TypeId} (h : zfx T t = true) : isBytes T t := by
 unfold zfx at h; unfold isBytes; split at h
 · rename_i ti ht; simp only [ht]; split at h
   · rename_i e hd; simp only [hd]; split at h
     · rename_i te hte; simp only [hte]; split at h
       · rename_i hk; simp only [hk]
       · cases h
     · cases h
   · cases h
 · cases h
def cConv (T : zab) (src dst : TypeId) (nm : Nat) (x : AV) (lk : Nat → Option Blk) : Option (AV × Us) :=
 match T src,T dst with
 | some _,some b => match b.d with
   | .int k => match x with
     | .w (.int _ n) => some (.w (.int k (k.wrap n)),[])
     | _ => none
   | .str => match x with
     | .str bs => some (.str bs,[])
     | _ => bif zfx T src then (zwr lk x).map fun l => (.str l,[]) else none
   | .slice _ => match x with
     | .str bs => bif zfx T dst && decide (bs.length ≤ 9223372036854775807) then some (.ms nm 1 0 bs.length,[(nm,some (.b bs))]) else none
     | .ms id s off len => match lk id with
       | some blk => bif zfx T dst && (decide (src = dst) && (decide (0 < blk.len) && decide (blk.size = 1))) then some (.ms id s off len,[(id,some blk)]) else none
       | none => none
     | _ => none
   | _ => none
 | _,_ => none
include hl in
theorem cConv_ok {T : zab} {src dst : TypeId} {nm : Nat} {x : AV} : Told (zkz T src dst nm x H) lk (cConv T src dst nm x lk) := by
 intro y us h
 unfold cConv at h
 unfold zkz
 split at h
 · rename_i a b ha hb
   simp only [ha,hb]
   split at h
   · rename_i k hk
     simp only [hk]
     split at h
     · injection h with h; injection h with h1 h2; subst h1 h2; exact ⟨trivial,rfl,hl⟩
     · cases h
   · rename_i hk
     simp only [hk]
     split at h
     · injection h with h; injection h with h1 h2; subst h1 h2; exact ⟨trivial,rfl,hl⟩
     · rename_i hx
       split
       · rename_i bs; exact (hx bs rfl).elim
       · cases hc : zfx T src with
         | true =>
           rw [hc] at h
           obtain ⟨v,hv,he⟩ := Option.map_eq_some_iff.1 h
           injection he with h1 h2; subst h1 h2
           obtain ⟨p,q⟩ := zpq hl hv
           exact ⟨⟨zkt hc,p⟩,by simp only [q],hl⟩
         | false => rw [hc] at h; cases h
   · rename_i e hk
     simp only [hk]
     split at h
     · rename_i bs
       cases hc : (zfx T dst && decide (bs.length ≤ 9223372036854775807)) with
       | true =>
         rw [hc] at h
         injection h with h; injection h with h1 h2; subst h1 h2
         simp only [Bool.and_eq_true,decide_eq_true_eq] at hc
         exact ⟨⟨zkt hc.1,hc.2⟩,rfl,fun id => zan hl id⟩
       | false => rw [hc] at h; cases h
     · rename_i id s off len
       simp only [hl id]
       split at h
       · rename_i blk hbk
         simp only [hbk]
         cases hc : (zfx T dst && (decide (src = dst) && (decide (0 < blk.len) && decide (blk.size = 1)))) with
         | true =>
           rw [hc] at h
           injection h with h; injection h with h1 h2; subst h1 h2
           simp only [Bool.and_eq_true,decide_eq_true_eq] at hc
           exact ⟨⟨zkt hc.1,hc.2⟩,rfl,fun id => zan hl id⟩
         | false => rw [hc] at h; cases h
       · cases h
     · cases h
   · cases h
 · cases h
end
end Ax
end Go.Proofs.Ytolclgkginfiaaa
