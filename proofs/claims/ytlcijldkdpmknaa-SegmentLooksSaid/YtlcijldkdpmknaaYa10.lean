/- What the proofs of this seat stand on; it asks nothing. -/
import Derived.Test.YtlcijldkdpmknaaYa09
set_option linter.unusedSimpArgs false
set_option linter.unusedVariables false
namespace Go.Proofs.Ytlcijldkdpmknaa
namespace Ax
open Go.RowKit
def FnsO (P : Program) (S : zal) : Prop := ∀ f s,S f = some s → Entered P f ∧ SoundO P f s
def noO : zal := fun _ => none
theorem noO_ok {P : Program} : FnsO P noO := fun f s h => by cases h
def openOp (SO : zal) (T : zac) (nm : Nat) (sl : List AV) (op : Op) (H : Heap) : Out :=
 match op with
 | .call c => match c.callee with
   | .value f => match ev sl f with
     | .fn f caps => aOpen SO nm f (coes T c.argTypes.toList (evs sl c.args.toList) ++ caps) H
     | _ => bad
   | _ => bad
 | _ => bad
theorem open_sound {P : Program} {w0 : World} {E : Nat → Prop} {w : World} {loc : Loc} {H : Heap} {T : zac} {SO : zal} (hS : FnsO P SO) (he : Env w0 E w loc) (hh : HR w loc H) {nm : Nat} (hfree : ∀ id,nm ≤ id → id < nm + 8 → loc.m id = .free) {sl : List AV} {a : Act} (o : Oper)
   (hev : ∀ x,R w loc (ev sl x) (a.eval x)) (hp : (openOp SO T nm sl o.op H).p) : Sd P w0 E w loc true nm (openOp SO T nm sl o.op H) o a := by
 cases ho : o.op with
 | call c =>
   obtain ⟨callee,args,argTypes⟩ := c
   cases callee with
   | value f =>
     have hfv := hev f
     simp only [openOp,ho] at hp ⊢
     generalize ev sl f = xf at hfv hp ⊢
     split at hp
     · rename_i g caps
       cases hv : a.eval f with
       | func fn first captured =>
         rw [hv] at hfv
         cases hfv with
         | fn _ _ cs hlc hc =>
           obtain ⟨e1,e2⟩ := evs_R (w := w) (loc := loc) (sl := sl) (a := a) args.toList (fun x _ => hev x)
           obtain ⟨c1,c2⟩ := coes_R (T := T) (w := w) (loc := loc) argTypes.toList (evs sl args.toList)
           have c2 := c2 (args.toList.map a.eval) e2
           have c3 : ∀ (j : Nat) (h : j < (coes T argTypes.toList (evs sl args.toList) ++ caps).length) (h' : j < (args.toList.map a.eval ++ cs).length),R w loc (coes T argTypes.toList (evs sl args.toList) ++ caps)[j] (args.toList.map a.eval ++ cs)[j] := by
             intro j h h'
             have hl : (coes T argTypes.toList (evs sl args.toList)).length = (args.toList.map a.eval).length := by rw [c1,e1]; simp
             by_cases hj : j < (coes T argTypes.toList (evs sl args.toList)).length
             · rw [List.getElem_append_left hj,List.getElem_append_left (by omega)]
               exact c2 j hj (by omega)
             · rw [List.getElem_append_right (by omega),List.getElem_append_right (by omega)]
               have := hc (j - (coes T argTypes.toList (evs sl args.toList)).length) (by rw [List.length_append] at h; omega) (by rw [List.length_append] at h'; omega)
               simpa only [hl] using this
           cases hsg : SO g with
           | none => simp [aOpen,hsg,bad] at hp
           | some sp =>
             obtain ⟨⟨fn,hfn,hbody,hname⟩,hsound⟩ := hS g sp hsg
             have hcall := call_postO (P := P) he hh hfree (SO := SO) (fun f s h => (hS f s h).2) (f := g) (by rw [List.length_append,List.length_append,c1,e1,hlc]; simp) c3 hp
             have hrun : (execOp a.eval o).run P w = .ok (.enter g (args.toList.map a.eval ++ cs).toArray) w := by
               have h1 : fn.name ≠ "runtime.NumGoroutine" := by simpa using hname
               have hb' : fn.body ≠ none := by intro e; rw [e] at hbody; simp at hbody
               have h9 : Array.map a.eval args = (args.toList.map a.eval).toArray := by rw [← Array.toList_inj]; simp
               simp [execOp,ho,resolve,hv,Deferred.ofValue,invoke,callFunc,hfn,h1,hb',h9]
             intro next Q hn
             unfold Oper.wp
             rw [hrun]
             refine hcall.mono ?_
             rintro e w' ⟨v,loc',rfl,h1⟩
             exact hn v w' loc' h1
       | _ => rw [hv] at hfv; cases hfv
     · exact hp.elim
   | _ => simp [openOp,ho,bad] at hp
 | _ => simp [openOp,ho,bad] at hp
theorem walk_look {H : Heap} : ∀ (ids good : List Nat),walk H good ids = true → ∀ id ∈ ids,look H id ≠ none
 | [],_,_,id,hid => by simp at hid
 | k :: r,good,hw,id,hid => by
   simp only [walk,Bool.and_eq_true] at hw
   cases hl : look H k with
   | none => simp [hl] at hw
   | some blk =>
     simp only [hl] at hw
     rcases List.mem_cons.1 hid with rfl | hid
     · rw [hl]; simp
     · exact walk_look r _ hw.2 id hid
theorem hnew_open {SO : zal} {T : zac} {sl : List AV} {op : Op} {nm : Nat} {H : Heap} : Hnew nm H (openOp SO T nm sl op H) := by
 unfold openOp
 split
 · split
   · split
     · unfold aOpen
       split
       · rename_i f _ spec hs
         intro hp id b hl
         simp only [openOut] at hp hl
         generalize reach H 12 [] (idsL _) = ids at *
         obtain ⟨⟨hnd,hwalk,hain,hpin⟩,hsp,hb1,hb2⟩ := hp
         rcases look_backO _ _ _ hl with ⟨j,hj,h1,h2⟩ | ⟨h1,h2⟩
         · rw [Nat.zero_add] at h1
           by_cases hjl : j < ids.length
           · rw [zdz hjl] at h1
             left
             rw [← h1]
             exact walk_look ids _ hwalk _ (List.getElem_mem hjl)
           · rw [zdk (by omega)] at h1
             right; omega
         · exact .inl (by rw [h1]; simp)
       · exact hok_bad.new
     · exact hok_bad.new
   · exact hok_bad.new
 · exact hok_bad.new
def aopsO (S SO : zal) (T : zac) (ops : List Oper) : Nat → Nat → List Oper → List AV → Heap → (List AV → Heap → Prop) → Prop
 | _,_,[],sl,H,Q => Q sl H
 | 0,nm,o :: r,sl,H,Q => o.guard = none ∧ (openOp SO T nm sl o.op H).p ∧ aops S T ops (nm + 8) r (zan sl o.dst (openOp SO T nm sl o.op H).x) (openOp SO T nm sl o.op H).H Q
 | k + 1,nm,o :: r,sl,H,Q => o.guard = none ∧ (aop S T nm sl o.op H).p ∧ aopsO S SO T ops k (nm + 8) r (zan sl o.dst (aop S T nm sl o.op H).x) (aop S T nm sl o.op H).H Q
theorem zfe {P : Program} {w0 : World} {E : Nat → Prop} {T : zac} {S SO : zal} (hT : TOk P T) (hS : Fns P S) (hSO : FnsO P SO) {ops : Array Oper} {K : Exit → Act → World → Prop} {Q : List AV → Heap → Prop} {B : Bs} {nz : Nat}
   (hK : ∀ sl H a w loc,Base w0 B w loc → Rel' w0 E loc ⟨sl,H,nz⟩ a w → Q sl H → K .normal a w) : ∀ (k : Nat) (r : List Oper) (nm : Nat) (sl : List AV) (H : Heap) (a : Act) (w : World) (loc : Loc),nz = nm + 8 * r.length → Base w0 B w loc →
   Rel' w0 E loc ⟨sl,H,nm⟩ a w → aopsO S SO T ops.toList k nm r sl H Q → wpList P ops K r a w
 | k,[],nm,sl,H,a,w,loc,hz,hb,hr,h => by
   simp only [List.length_nil,Nat.mul_zero,Nat.add_zero] at hz
   subst hz
   exact wpList_nil (hK sl H a w loc hb hr (by cases k <;> exact h))
 | 0,o :: r,nm,sl,H,a,w,loc,hz,hb,hr,h => by
   have hz' : nz = nm + 8 + 8 * r.length := by simp at hz; omega
   obtain ⟨hg,hp,hrest⟩ := h
   refine wpList_step fun Kn hKn => ?_
   rw [if_pos (by simp [Region.wanted,hg])]
   have hop := open_sound (T := T) hSO hr.env hr.heap (fun id h1 _ => hr.fresh id h1) o (fun x => ev_R hr.slots x) hp
   exact hop Kn K (fun v w' loc' hpost => hKn _ _ (zcw (ops := ops) hT hS hK r (nm + 8) _ _ _ w' loc' hz' (hb.post hpost) (zfj hr hpost (hnew_open hp) o.dst) hrest))
 | k + 1,o :: r,nm,sl,H,a,w,loc,hz,hb,hr,h => by
   have hz' : nz = nm + 8 + 8 * r.length := by simp at hz; omega
   obtain ⟨hg,hp,hrest⟩ := h
   refine wpList_step fun Kn hKn => ?_
   rw [if_pos (by simp [Region.wanted,hg])]
   have hop := zdx hT hS hr.env hr.heap (fun id h1 _ => hr.fresh id h1) o (fun x _ => ev_R hr.slots x) hp
   exact hop Kn K (fun v w' loc' hpost => hKn _ _ (zfe hT hS hSO hK k r (nm + 8) _ _ _ w' loc' hz' (hb.post hpost) (zfj hr hpost (hnew_aop hp) o.dst) hrest))
def specOp (T : zac) (sl : List AV) (op : Op) (K : AV → Prop) : Prop :=
 match op with
 | .binOp .eql t x (.const (.slice none 0 0)) _ => match T t with
   | some ti => match ti.d with
     | .slice _ => match ev sl x with
       | .sg s xs _ => 0 < s ∧ ∀ b,(b = true → xs.length = 0) → K (.w (.bool b))
       | .sb xs _ => ∀ b,(b = true → xs.length = 0) → K (.w (.bool b))
       | .si xs _ => ∀ b,(b = true → xs.length = 0) → K (.w (.bool b))
       | _ => False
     | _ => False
   | none => False
 | .buildSlice t 0 ps => match T t with
   | some ti => match ti.d with
     | .slice e => match T e with
       | some te => ps = #[] ∧ 0 < te.size ∧ K (.sg te.size [] true)
       | none => False
     | _ => False
   | none => False
 | .call c => match c.callee with
   | .builtin .append => match c.args.toList,c.argTypes.toList with
     | [x,y],[t,u] => match T t,T u with
       | some ti,some tu => match ti.d,tu.d with
         | .slice e,.slice _ => match T e with
           | some te => match ev sl x,ev sl y with
             | .sg s [] true,.sg _ [] _ => 0 < te.size ∧ K (.sg s [] true)
             | .sg s [] true,.sb [] _ => 0 < te.size ∧ K (.sg s [] true)
             | .sg s [] true,.si [] _ => 0 < te.size ∧ K (.sg s [] true)
             | _,_ => False
           | none => False
         | _,_ => False
       | _,_ => False
     | _,_ => False
   | _ => False
 | _ => False
theorem append_none {P : Program} {t u ty e e' : TypeId} {te : TyI} (hd : P.underlying t = some (.slice e)) (hu : P.underlying u = some (.slice e')) (hty : TyR P e te) (a a' : Option Addr) (c : Nat) (w : World) :
   (Builtin.append_ #[t,u] ty #[.slice a 0 0,.slice a' 0 c]).run P w = .ok (.slice a 0 0) w := by
 have hsz := fun W => zar (P := P) hty W
 have hlc : ∀ (b : Addr) W,(loadCells b 0).run P W = .ok #[] W := fun b W => by simp [loadCells,loadCellsFrom]
 have hst : ∀ (b : Addr) W,(storeCells b []).run P W = .ok () W := fun b W => by simp [storeCells]
 unfold Builtin.append_
 cases a <;> cases a' <;> simp [run_underlying hd,run_underlying hu,hsz,Builtin.lenOf,Builtin.firstCells,hlc,hst]
theorem specOp_sound {P : Program} {w0 : World} {E : Nat → Prop} {T : zac} (hT : TOk P T) {w : World} {loc : Loc} {H : Heap} (he : Env w0 E w loc) (hh : HR w loc H) {nm : Nat} {sl : List AV} {a : Act} {op : Op} {K : AV → Prop} (hev : ∀ x,R w loc (ev sl x) (a.eval x)) (h : specOp T sl op K) :
   ∃ x v w',K x ∧ Post w0 E w loc true nm x H v w' loc ∧ ∀ o : Oper,o.op = op → (execOp a.eval o).run P w = .ok (.value v) w' := by
 unfold specOp at h
 split at h
 · rename_i t x yt
   cases ht : T t with
   | none => simp [ht] at h
   | some ti =>
     simp only [ht] at h
     split at h
     · rename_i e hd
       have hu : ∃ e,P.underlying t = some (.slice e) := by
         have := (hT t ti ht).d
         rw [hd] at this
         exact ⟨_,this⟩
       obtain ⟨e,hu⟩ := hu
       have hx := hev x
       generalize ev sl x = xv at hx h
       split at h
       · rename_i s xs f
         obtain ⟨hs,h⟩ := h
         generalize hv : a.eval x = v at hx
         cases hx with
         | sg _ _ _ ad cap cs hd hs' hc hl hx' _ =>
           refine ⟨_,.bool ad.isNone,w,h ad.isNone fun hn => ?_,Post.pure (.w _ rfl) hh he,fun o ho => ?_⟩
           · cases xs with
             | nil => rfl
             | cons y ys =>
               exfalso
               obtain rfl : ad = none := by simpa using hn
               rcases hc.lies with rfl | ⟨b,o,he,_⟩
               · have := hs' y (by simp)
                 rw [List.flatMap_cons,List.length_append,List.length_nil] at hl
                 omega
               · cases he
           · have heq : ∀ d,(Op.equalIn (d + 1) t (.slice ad xs.length cap) (.slice none 0 0)).run P w = .ok ad.isNone w := fun d => by cases ad <;> simp [Op.equalIn,run_underlying hu]
             have heq := heq 9999
             have h2 : (Op.equal t (.slice ad xs.length cap) (.slice none 0 0)).run P w = .ok ad.isNone w := heq
             simp only [execOp,ho,hv]
             simp [zcv (u := .slice ad xs.length cap) rfl (by simp),binOp,h2,Act.eval]
       · rename_i xs f
         generalize hv : a.eval x = v at hx
         cases hx with
         | sb _ _ ad cap hd hc =>
           refine ⟨_,.bool ad.isNone,w,h ad.isNone fun hn => ?_,Post.pure (.w _ rfl) hh he,fun o ho => ?_⟩
           · cases xs with
             | nil => rfl
             | cons y ys =>
               exfalso
               obtain rfl : ad = none := by simpa using hn
               rcases hc.lies with hcs | ⟨b,o,he,_⟩
               · simp at hcs
               · cases he
           · have heq : ∀ d,(Op.equalIn (d + 1) t (.slice ad xs.length cap) (.slice none 0 0)).run P w = .ok ad.isNone w := fun d => by cases ad <;> simp [Op.equalIn,run_underlying hu]
             have heq := heq 9999
             have h2 : (Op.equal t (.slice ad xs.length cap) (.slice none 0 0)).run P w = .ok ad.isNone w := heq
             simp only [execOp,ho,hv]
             simp [zcv (u := .slice ad xs.length cap) rfl (by simp),binOp,h2,Act.eval]
       · rename_i xs f
         generalize hv : a.eval x = v at hx
         cases hx with
         | si _ _ ad cap hd hc =>
           refine ⟨_,.bool ad.isNone,w,h ad.isNone fun hn => ?_,Post.pure (.w _ rfl) hh he,fun o ho => ?_⟩
           · cases xs with
             | nil => rfl
             | cons y ys =>
               exfalso
               obtain rfl : ad = none := by simpa using hn
               rcases hc.lies with hcs | ⟨b,o,he,_⟩
               · simp at hcs
               · cases he
           · have heq : ∀ d,(Op.equalIn (d + 1) t (.slice ad xs.length cap) (.slice none 0 0)).run P w = .ok ad.isNone w := fun d => by cases ad <;> simp [Op.equalIn,run_underlying hu]
             have heq := heq 9999
             have h2 : (Op.equal t (.slice ad xs.length cap) (.slice none 0 0)).run P w = .ok ad.isNone w := heq
             simp only [execOp,ho,hv]
             simp [zcv (u := .slice ad xs.length cap) rfl (by simp),binOp,h2,Act.eval]
       · exact h.elim
     · exact h.elim
 · rename_i t ps
   cases ht : T t with
   | none => simp [ht] at h
   | some ti =>
     simp only [ht] at h
     split at h
     · rename_i e hd
       have hu : P.underlying t = some (.slice e) := by
         have := (hT t ti ht).d
         rw [hd] at this
         exact this
       cases hte : T e with
       | none => simp [hte] at h
       | some te =>
         simp only [hte] at h
         obtain ⟨rfl,hs,hK⟩ := h
         have hty := hT _ te hte
         obtain ⟨z,z1,z2,z3⟩ := zbh hty w
         have hrun := zda (P := P) (t := t) (n := 0) (pv := #[]) (cs := #[]) hu hty z1 hs (by omega) (by simp [Instr.fill])
         refine ⟨_,.slice (some ⟨w.heap.size,0,none⟩) 0 0,{ w with heap := w.heap.push (.cells #[] e) },hK,post_anon (o := .cells #[] e) he hh ⟨rfl,rfl,rfl,rfl⟩ (fun _ => .sg _ [] true _ 0 [] ⟨Nat.le_refl _,Nat.zero_le _,fun _ => rfl⟩ (by simp) ⟨.inl rfl⟩ rfl (by simp) (by simp)),fun o ho => ?_⟩
         simp [execOp,ho,hrun]
     · exact h.elim
 · rename_i c
   obtain ⟨callee,args,argTypes⟩ := c
   simp only at h
   split at h
   · split at h
     · rename_i d x t u ha hb
       cases ht : T t with
       | none => simp [ht] at h
       | some ti =>
         cases htu : T u with
         | none => simp [ht,htu] at h
         | some tu =>
           simp only [ht,htu] at h
           have hd := (hT t ti ht).d
           have hud := (hT u tu htu).d
           split at h
           · rename_i e e' hdd hdu
             rw [hdd] at hd
             rw [hdu] at hud
             have hd : P.underlying t = some (.slice e) := hd
             have hud : P.underlying u = some (.slice e') := hud
             cases hte : T e with
             | none => simp [hte] at h
             | some te =>
               simp only [hte] at h
               have hty := hT _ te hte
               have hdv := hev d
               have hxv := hev x
               generalize ev sl d = dv at hdv h
               generalize ev sl x = xv at hxv h
               split at h
               · rename_i s s' f'
                 obtain ⟨hs,hK⟩ := h
                 obtain rfl : args = #[d,x] := by rw [← Array.toList_inj]; exact ha
                 obtain rfl : argTypes = #[t,u] := by rw [← Array.toList_inj]; exact hb
                 generalize hv1 : a.eval d = v1 at hdv
                 generalize hv2 : a.eval x = v2 at hxv
                 cases hdv with
                 | sg _ _ _ ad cap cs hdm hs' hc hl hx' hh' =>
                   obtain rfl : cap = 0 := hdm.full rfl
                   cases hxv with
                   | sg _ _ _ ad2 cap2 cs2 hdm2 hs2 hc2 hl2 hx2 hh2 =>
                     refine ⟨_,.slice ad 0 0,w,hK,Post.pure (.sg _ [] true ad 0 cs hdm hs' hc hl hx' hh') hh he,fun o ho => ?_⟩
                     have h1 := append_none (P := P) (ty := o.type) hd hud hty ad ad2 cap2 w
                     simp only [execOp,ho,resolve,invoke,builtin,Sem.run_bind,Sem.run_pure,Result.andThen_ok]
                     simp [hv1,hv2,h1]
               · rename_i s f'
                 obtain ⟨hs,hK⟩ := h
                 obtain rfl : args = #[d,x] := by rw [← Array.toList_inj]; exact ha
                 obtain rfl : argTypes = #[t,u] := by rw [← Array.toList_inj]; exact hb
                 generalize hv1 : a.eval d = v1 at hdv
                 generalize hv2 : a.eval x = v2 at hxv
                 cases hdv with
                 | sg _ _ _ ad cap cs hdm hs' hc hl hx' hh' =>
                   obtain rfl : cap = 0 := hdm.full rfl
                   cases hxv with
                   | sb _ _ ad2 cap2 hdm2 hc2 =>
                     refine ⟨_,.slice ad 0 0,w,hK,Post.pure (.sg _ [] true ad 0 cs hdm hs' hc hl hx' hh') hh he,fun o ho => ?_⟩
                     have h1 := append_none (P := P) (ty := o.type) hd hud hty ad ad2 cap2 w
                     simp only [execOp,ho,resolve,invoke,builtin,Sem.run_bind,Sem.run_pure,Result.andThen_ok]
                     simp [hv1,hv2,h1]
               · rename_i s f'
                 obtain ⟨hs,hK⟩ := h
                 obtain rfl : args = #[d,x] := by rw [← Array.toList_inj]; exact ha
                 obtain rfl : argTypes = #[t,u] := by rw [← Array.toList_inj]; exact hb
                 generalize hv1 : a.eval d = v1 at hdv
                 generalize hv2 : a.eval x = v2 at hxv
                 cases hdv with
                 | sg _ _ _ ad cap cs hdm hs' hc hl hx' hh' =>
                   obtain rfl : cap = 0 := hdm.full rfl
                   cases hxv with
                   | si _ _ ad2 cap2 hdm2 hc2 =>
                     refine ⟨_,.slice ad 0 0,w,hK,Post.pure (.sg _ [] true ad 0 cs hdm hs' hc hl hx' hh') hh he,fun o ho => ?_⟩
                     have h1 := append_none (P := P) (ty := o.type) hd hud hty ad ad2 cap2 w
                     simp only [execOp,ho,resolve,invoke,builtin,Sem.run_bind,Sem.run_pure,Result.andThen_ok]
                     simp [hv1,hv2,h1]
               · exact h.elim
           · exact h.elim
     · exact h.elim
   · exact h.elim
 · exact h.elim
theorem map_eraseN {α β : Type} (f : α → β) : ∀ (l : List α) (j : Nat),(l.eraseIdx j).map f = (l.map f).eraseIdx j
 | [],j => by simp
 | x :: r,0 => by simp
 | x :: r,j + 1 => by simp [map_eraseN f r j]
theorem filter_erase {α β : Type} [BEq β] [LawfulBEq β] (f : α → β) : ∀ (l : List α) (j : Nat) (hj : j < l.length),(l.map f).Nodup → (l.filter fun x => !(f x == f l[j])) = l.eraseIdx j
 | [],j,hj,_ => by simp at hj
 | x :: r,0,hj,hn => by
   rw [List.map_cons,List.nodup_cons] at hn
   have h1 : ((fun y => !(f y == f (x :: r)[0])) : α → Bool) x = false := by simp
   rw [List.filter_cons_of_neg (by simp),List.eraseIdx_cons_zero]
   refine List.filter_eq_self.2 fun y hy => ?_
   have : f y ≠ f x := fun e => hn.1 (e ▸ List.mem_map_of_mem hy)
   simpa using this
 | x :: r,j + 1,hj,hn => by
   rw [List.map_cons,List.nodup_cons] at hn
   have hj' : j < r.length := by simpa using hj
   have hne : f x ≠ f r[j] := fun e => hn.1 (e ▸ List.mem_map_of_mem (List.getElem_mem hj'))
   simp only [List.getElem_cons_succ,List.eraseIdx_cons_succ]
   rw [List.filter_cons_of_pos (by simpa using hne),filter_erase f r j hj' hn.2]
def specNext (x : AV) (H : Heap) (K : AV → Heap → Prop) : Prop :=
 match x with
 | .rf id s i f => match look H id with
   | some (.o (.mi es _)) => ((i = 0 ∧ f = 0) ∧ s ≠ 0) ∧ (es = [] → K (.tup [.w (.bool false)]) H) ∧ ∀ (j : Nat) (h : j < es.length),K (.tup [.w (.bool true),es[j].1,es[j].2]) (put H id (.o (.mi (es.eraseIdx j) (some es[j]))))
   | _ => False
 | _ => False
theorem specNext_sound {P : Program} {w0 : World} {E : Nat → Prop} {w : World} {loc : Loc} {H : Heap} (he : Env w0 E w loc) (hh : HR w loc H) {nm : Nat} {ty : TypeId} {x : AV} {v : Value} {K : AV → Heap → Prop} (hx : R w loc x v) (h : specNext x H K) :
   ∃ y H' u w',K y H' ∧ Post w0 E w loc true nm y H' u w' loc ∧ (∀ id b,look H' id = some b → look H id ≠ none) ∧ (Instr.next v false ty).run P w = .ok u w' := by
 unfold specNext at h
 split at h
 · rename_i id s i f
   split at h
   · rename_i es now hl
     obtain ⟨⟨⟨rfl,rfl⟩,hs⟩,hz,hK⟩ := h
     cases hx with
     | rf _ _ _ _ _ h =>
       obtain ⟨c,hc,rfl,m,ms,clk,seen,h1,h2,h3,h4⟩ := zeh hh h hl
       rw [zbf hs,show 0 * s + 0 = 0 from by simp]
       have g1 := zbw (P := P) h1
       have g2 := zbw (P := P) h2
       have hLl : (ms.filter fun e => !seen.contains e.born).toList = ms.toList.filter fun e => !seen.contains e.born := by rw [Array.toList_filter]
       have hlen : (ms.filter fun e => !seen.contains e.born).size = es.length := by
         have := congrArg List.length h4.kv
         rw [List.length_map,List.length_map] at this
         rw [← this,← hLl]; rfl
       generalize hL : (ms.filter fun e => !seen.contains e.born) = L at hLl hlen
       have hLm : ∀ e ∈ L,e ∈ ms.toList := fun e he => by
         have : e ∈ L.toList := by simpa using he
         rw [hLl] at this
         exact (List.mem_filter.1 this).1
       have hold : L.filter (fun e => decide (e.born < clk)) = L := by
         rw [← Array.toList_inj,Array.toList_filter]
         exact List.filter_eq_self.2 fun e he => by simpa using h4.old e (hLm e (by simpa using he))
       have hnew : L.filter (fun e => decide (e.born ≥ clk)) = #[] := by
         rw [← Array.toList_inj,Array.toList_filter]
         refine List.filter_eq_nil_iff.2 fun e he => ?_
         have := h4.old e (hLm e (by simpa using he))
         simp; omega
       by_cases h0 : es.length = 0
       · have he0 : es = [] := List.eq_nil_of_length_eq_zero h0
         have hL0 : L = #[] := by rw [h0] at hlen; exact Array.eq_empty_of_size_eq_zero hlen
         refine ⟨_,H,.tuple #[.bool false],w,hz he0,Post.pure ?_ hh he,fun id b hb => by rw [hb]; simp,?_⟩
         · exact .tup [.w (.bool false)] [.bool false] rfl (fun j h5 h6 => by
             have : j = 0 := by simp at h5; omega
             subst this; exact .w _ rfl)
         · simp only [Instr.next,Sem.run_bind,g1,g2,Result.andThen_ok,next_test_false seen ms clk clk h4.old (Nat.le_refl _),Bool.false_eq_true,if_false,hL,hL0]
           simp [choose,Sem.run,Question.forced]
       · obtain ⟨j,w1,hj,hw1,hch⟩ : ∃ j w1,j < L.size ∧ (w1 = w ∨ w1 = { w with drawn := w.drawn + 1 }) ∧ (choose (.mapNext L.size)).run P w = .ok j w1 := by
           by_cases hn : L.size ≤ 1
           · exact ⟨0,w,by omega,.inl rfl,by simp [choose,Sem.run,Question.forced,hn]⟩
           · refine ⟨(Question.mapNext L.size).cut (w.tape w.drawn (.mapNext L.size)),{ w with drawn := w.drawn + 1 },?_,.inr rfl,by simp [choose,Sem.run,Question.forced,hn]⟩
             simp only [Question.cut]
             exact Nat.mod_lt _ (by omega)
         have hje : j < es.length := by omega
         have hjt : j < (ms.toList.filter fun e => !seen.contains e.born).length := by rw [← hLl]; simpa using hj
         have hke : kvOf L[j] = pp es[j] := by
           have e1 : (ms.toList.filter fun e => !seen.contains e.born)[j]'hjt = L[j] := by simp only [← hLl]; simp
           have e2 := congrArg (fun l : List (Value × Value) => l[j]?) h4.kv
           simp only [List.getElem?_map] at e2
           rw [List.getElem?_eq_getElem hjt,List.getElem?_eq_getElem hje,e1] at e2
           simpa using e2
         generalize hee : L[j] = e at hke
         have hem : e ∈ ms.toList := hLm e (by rw [← hee]; simp)
         have heb := h4.old e hem
         have hcm : m ≠ c := by rintro rfl; exact h3 (.inr ⟨id,hc⟩)
         have hE : Ext (fun _ => False) w loc w1 loc := by rcases hw1 with rfl | rfl <;> exact ⟨Nat.le_refl _,fun _ _ _ => rfl,fun _ _ _ => .inl rfl,fun _ _ h => ⟨rfl,h⟩,fun _ _ _ _ => rfl,fun _ cur _ fz h => ⟨cur,fz,h,rfl⟩⟩
         have hh1 : HR w1 loc H := fun k b hb => by
           by_cases hf : loc.m k = .free
           · exact BlkR.free hf
           · exact (hh k b hb).ext hE (fun h => h) hf
         have he1 : Env w0 E w1 loc := by rcases hw1 with rfl | rfl <;> exact ⟨he.os,he.tape,he.output,he.size,he.same,he.inj,he.lies,he.bad⟩
         have h11 : w1.heap[c]? = some (.mapIter (some m) clk seen clk) := by rcases hw1 with rfl | rfl <;> exact h1
         have h21 : w1.heap[m]? = some (.map ms clk) := by rcases hw1 with rfl | rfl <;> exact h2
         have h6 := h4.pure es[j] (List.getElem_mem hje)
         have hpost := zeu (y := .mi (es.eraseIdx j) (some es[j])) (nm := nm) (ob' := .mapIter (some m) clk (seen.push e.born) clk) (u := .tup [.w (.bool true),es[j].1,es[j].2]) (v := .tuple #[.bool true,e.key,e.val]) he1 hh1 hc h11 rfl ⟨m,ms,clk,_,set_at h11,by
             simp only
             rw [Array.getElem?_setIfInBounds,if_neg (Ne.symm hcm)]; exact h21,h3,by
             refine ⟨?_,fun q hq => h4.pure q (List.mem_of_mem_eraseIdx hq),h4.nd,h4.old,fun q hq => ?_⟩
             · have h5 : (ms.toList.filter fun x => !(seen.push e.born).contains x.born) = (ms.toList.filter fun x => !seen.contains x.born).filter fun x => !(x.born == e.born) := by
                 rw [List.filter_filter]
                 refine List.filter_congr fun x _ => ?_
                 rw [contains_push,Bool.not_or,Bool.and_comm]
               have h7 : e = (ms.toList.filter fun x => !seen.contains x.born)[j]'hjt := by rw [← hee]; simp only [← hLl]; simp
               rw [h5]
               have h8 := filter_erase (fun x : MapEntry => x.born) (ms.toList.filter fun x => !seen.contains x.born) j hjt (h4.nd.sublist (List.Sublist.map _ List.filter_sublist))
               rw [← h7] at h8
               rw [h8,map_eraseN,h4.kv,← map_eraseN]
             · injection hq with hq; subst hq
               exact ⟨h6,e,hem,by simp,hke⟩⟩ (by
             have e1 : e.key = pv es[j].1 := congrArg Prod.fst hke
             have e2 : e.val = pv es[j].2 := congrArg Prod.snd hke
             intro w2 loc2
             rw [e1,e2]
             exact .tup [.w (.bool true),es[j].1,es[j].2] [.bool true,pv es[j].1,pv es[j].2] rfl (fun k h7 h8 => by
               have : k = 0 ∨ k = 1 ∨ k = 2 := by simp at h7; omega
               rcases this with rfl | rfl | rfl
               · exact .w _ rfl
               · exact pure_R (zdh h6.1)
               · exact pure_R h6.2))
         have hpost' : Post w0 E w loc true nm (.tup [.w (.bool true),es[j].1,es[j].2]) (put H id (.o (.mi (es.eraseIdx j) (some es[j])))) (.tuple #[.bool true,e.key,e.val]) { w1 with heap := w1.heap.setIfInBounds c (.mapIter (some m) clk (seen.push e.born) clk) } loc := by
           rcases hw1 with rfl | rfl
           · exact hpost
           · exact ⟨hpost.r,hpost.h,hpost.env,by obtain ⟨C,h,h'⟩ := hpost.ext; exact ⟨C,⟨h.size,h.keep,h.gone,h.imm,h.own,h.shape⟩,h'⟩,hpost.fresh,hpost.bad⟩
         refine ⟨_,_,_,_,hK j hje,hpost',fun k b hb => ?_,?_⟩
         · rw [zav] at hb
           split at hb
           · rename_i e; subst e; rw [hl]; simp
           · rw [hb]; simp
         · have hne : L.isEmpty = false := by
             cases hi : L.isEmpty with
             | false => rfl
             | true => have := Array.isEmpty_iff.1 hi; subst this; simp at hj
           simp only [Instr.next,Sem.run_bind,g1,g2,Result.andThen_ok,next_test_false seen ms clk clk h4.old (Nat.le_refl _),Bool.false_eq_true,if_false,hL,hold,hnew]
           have hca : ((if L.isEmpty then #[none] else #[]) ++ (L ++ #[]).map some : Array (Option MapEntry)) = L.map some := by rw [hne]; simp
           rw [hca]
           simp only [Array.size_map,hch,Result.andThen_ok]
           simp [hj,hee,zdg h11]
   · exact h.elim
 · exact h.elim
def specOpH (T : zac) (sl : List AV) (op : Op) (H : Heap) (K : AV → Heap → Prop) : Prop :=
 match op with
 | .next x false => specNext (ev sl x) H K
 | op => specOp T sl op (fun x => K x H)
theorem specOpH_sound {P : Program} {w0 : World} {E : Nat → Prop} {T : zac} (hT : TOk P T) {w : World} {loc : Loc} {H : Heap} (he : Env w0 E w loc) (hh : HR w loc H) {nm : Nat} {sl : List AV} {a : Act} {op : Op} {K : AV → Heap → Prop} (hev : ∀ x,R w loc (ev sl x) (a.eval x)) (h : specOpH T sl op H K) :
   ∃ x H' v w',K x H' ∧ Post w0 E w loc true nm x H' v w' loc ∧ (∀ id b,look H' id = some b → look H id ≠ none) ∧ ∀ o : Oper,o.op = op → (execOp a.eval o).run P w = .ok (.value v) w' := by
 have key : specOp T sl op (fun x => K x H) → ∃ x H' v w',K x H' ∧ Post w0 E w loc true nm x H' v w' loc ∧ (∀ id b,look H' id = some b → look H id ≠ none) ∧ ∀ o : Oper,o.op = op → (execOp a.eval o).run P w = .ok (.value v) w' := fun h => by
   obtain ⟨x,v,w',h1,h2,h3⟩ := specOp_sound (P := P) (nm := nm) hT he hh hev h
   exact ⟨x,H,v,w',h1,h2,fun id b hb => by rw [hb]; simp,h3⟩
 unfold specOpH at h
 split at h
 · rename_i x
   obtain ⟨y,H',u,w',h1,h2,h3,h4⟩ := specNext_sound (P := P) (nm := nm) (ty := 0) he hh (hev x) h
   refine ⟨y,H',u,w',h1,h2,h3,fun o ho => ?_⟩
   have h5 : (Instr.next (a.eval x) false o.type).run P w = .ok u w' := h4
   simp [execOp,ho,h5]
 · exact key h
def aopsT (S : zal) (T : zac) (ops : List Oper) : List Bool → Nat → List Oper → List AV → Heap → (List AV → Heap → Prop) → Prop
 | _,_,[],sl,H,Q => Q sl H
 | [],nm,r,sl,H,Q => aops S T ops nm r sl H Q
 | true :: l,nm,o :: r,sl,H,Q => o.guard = none ∧ specOpH T sl o.op H (fun x H => aopsT S T ops l (nm + 8) r (zan sl o.dst x) H Q)
 | false :: l,nm,o :: r,sl,H,Q => o.guard = none ∧ (aop S T nm sl o.op H).p ∧ aopsT S T ops l (nm + 8) r (zan sl o.dst (aop S T nm sl o.op H).x) (aop S T nm sl o.op H).H Q
theorem aopsT_sound {P : Program} {w0 : World} {E : Nat → Prop} {T : zac} {S : zal} (hT : TOk P T) (hS : Fns P S) {ops : Array Oper} {K : Exit → Act → World → Prop} {Q : List AV → Heap → Prop} {B : Bs} {nz : Nat}
   (hK : ∀ sl H a w loc,Base w0 B w loc → Rel' w0 E loc ⟨sl,H,nz⟩ a w → Q sl H → K .normal a w) : ∀ (k : List Bool) (r : List Oper) (nm : Nat) (sl : List AV) (H : Heap) (a : Act) (w : World) (loc : Loc),nz = nm + 8 * r.length → Base w0 B w loc →
   Rel' w0 E loc ⟨sl,H,nm⟩ a w → aopsT S T ops.toList k nm r sl H Q → wpList P ops K r a w
 | k,[],nm,sl,H,a,w,loc,hz,hb,hr,h => by
   simp only [List.length_nil,Nat.mul_zero,Nat.add_zero] at hz
   subst hz
   exact wpList_nil (hK sl H a w loc hb hr (by cases k with | nil => exact h | cons b _ => cases b <;> exact h))
 | [],o :: r,nm,sl,H,a,w,loc,hz,hb,hr,h => zcw (ops := ops) hT hS hK (o :: r) nm sl H a w loc hz hb hr h
 | true :: l,o :: r,nm,sl,H,a,w,loc,hz,hb,hr,h => by
   have hz' : nz = nm + 8 + 8 * r.length := by simp at hz; omega
   obtain ⟨hg,hp⟩ := h
   refine wpList_step fun Kn hKn => ?_
   rw [if_pos (by simp [Region.wanted,hg])]
   obtain ⟨x,H',v,w',hrest,hpost,hin,hrun⟩ := specOpH_sound (P := P) (nm := nm) hT hr.env hr.heap (fun x => ev_R hr.slots x) hp
   exact (zap (w' := w') (loc' := loc) (out := ⟨True,x,H'⟩) (hrun o rfl) hpost) Kn K (fun v w' loc' hpost => hKn _ _ (aopsT_sound hT hS hK l r (nm + 8) _ _ _ w' loc' hz' (hb.post hpost) (zfj hr hpost (fun id b hl => Or.inl (hin id b hl)) o.dst) hrest))
 | false :: l,o :: r,nm,sl,H,a,w,loc,hz,hb,hr,h => by
   have hz' : nz = nm + 8 + 8 * r.length := by simp at hz; omega
   obtain ⟨hg,hp,hrest⟩ := h
   refine wpList_step fun Kn hKn => ?_
   rw [if_pos (by simp [Region.wanted,hg])]
   have hop := zdx hT hS hr.env hr.heap (fun id h1 _ => hr.fresh id h1) o (fun x _ => ev_R hr.slots x) hp
   exact hop Kn K (fun v w' loc' hpost => hKn _ _ (aopsT_sound hT hS hK l r (nm + 8) _ _ _ w' loc' hz' (hb.post hpost) (zfj hr hpost (hnew_aop hp) o.dst) hrest))
inductive RP where
 | std
 | frz (fs : List Nat)
 | opn (fs : List Nat) (k : Nat)
 | prs (l : List (Nat × Nat))
 | tst (k : List Bool)
 | wkp (l : List (Nat × Nat))
 | drs (l : List (Nat × Nat)) (k : Nat)
 | drf (l : List (Nat × Nat)) (k f : Nat)
 | wks
abbrev XPlan := Nat → RP
def floatAt (T : zac) (f : Nat) (ops : List Oper) : Bool := match ops[f]? with
 | some o => floatB T o
 | none => false
def zcg (T : zac) (pl : XPlan) : Code → Bool
 | .region id ops draw => match pl id with
   | .std => !draw || drawOk T ops.toList
   | .frz _ => !draw || drawOk T ops.toList
   | .opn _ _ => !draw
   | .tst _ => !draw
   | .prs p => draw && drawOkF T ops.toList p
   | .wkp p => draw && drawOkF T ops.toList p
   | .wks => !draw || drawOk T ops.toList
   | .drs p k => draw && (decide (k ≤ ops.toList.length) && (drawOkF T (ops.toList.take k) p && tailB k ops.toList))
   | .drf p k f => draw && (decide (k < ops.toList.length ∧ f < k) && (drawOkF T (ops.toList.take k) p && (tailFB f k ops.toList && floatAt T f ops.toList)))
 | .seq a b => zcg T pl a && zcg T pl b
 | .cond _ a b => zcg T pl a && zcg T pl b
 | .block _ c => zcg T pl c
 | .loop c => zcg T pl c
 | _ => true
def wkF (S : zal) (T : zac) (l : List Oper) (p : List (Nat × Nat)) (nx : Nat) (sl : List AV) (H : Heap) (Q : Exit → ASt → Prop) : Prop := ∃ sl' H',Weak ⟨sl,H,nx⟩ ⟨sl',H',nx⟩ ∧ zdw S T l p nx [] l sl' H' (regK (nx + 8 * l.length) Q)
def drF (S SO : zal) (T : zac) (l : List Oper) (p : List (Nat × Nat)) (k nx : Nat) (sl : List AV) (H : Heap) (Q : Exit → ASt → Prop) : Prop :=
 ∃ sl' H',Weak ⟨sl,H,nx⟩ ⟨sl',H',nx⟩ ∧ zdw S T (l.take k) p nx [] (l.take k) sl' H' (fun sl H => aopsO S SO T l 0 (nx + 8 * k) (l.drop k) sl H (regK (nx + 8 * l.length) Q))
def behindF (l : List Oper) (k f : Nat) : List Oper := match l.drop k,l[f]? with
 | c :: r,some o => c :: o :: r
 | _,_ => []
def dstF (l : List Oper) (f : Nat) : Option Tmp := match l[f]? with
 | some o => o.dst
 | none => none
def dfF (S SO : zal) (T : zac) (l : List Oper) (p : List (Nat × Nat)) (k f nx : Nat) (sl : List AV) (H : Heap) (Q : Exit → ASt → Prop) : Prop :=
 ∃ sl' H',Weak ⟨sl,H,nx⟩ ⟨sl',H',nx⟩ ∧ zdw S T (l.take k) p nx [] (l.take k) sl' H' (fun sl H => aopsO S SO T l 0 (nx + 8 * k) (l.drop k) sl H (regK (nx + 8 * (l.length + 1)) Q) ∧ aopsO S SO T l 0 (nx + 8 * k) (behindF l k f) (zan sl (dstF l f) .junk) H (regK (nx + 8 * (l.length + 1)) Q))
def wsF (S : zal) (T : zac) (l : List Oper) (nx : Nat) (sl : List AV) (H : Heap) (Q : Exit → ASt → Prop) : Prop := ∃ sl' H',Weak ⟨sl,H,nx⟩ ⟨sl',H',nx⟩ ∧ aops S T l nx l sl' H' (regK (nx + 8 * l.length) Q)
def awpO (S SO : zal) (T : zac) (pl : XPlan) : Code → (Exit → ASt → Prop) → ASt → Prop
 | .skip,Q,σ => Q .normal σ
 | .label _,Q,σ => Q .normal σ
 | .region id ops _,Q,σ => match pl id with
   | .std => aops S T ops.toList σ.nx ops.toList σ.sl σ.H (regK (σ.nx + 8 * ops.toList.length) Q)
   | .prs p => zdw S T ops.toList p σ.nx [] ops.toList σ.sl σ.H (regK (σ.nx + 8 * ops.toList.length) Q)
   | .frz fs => frzK fs σ.sl σ.H (fun sl H => aops S T ops.toList σ.nx ops.toList sl H (regK (σ.nx + 8 * ops.toList.length) Q))
   | .opn fs k => frzK fs σ.sl σ.H (fun sl H => aopsO S SO T ops.toList k σ.nx ops.toList sl H (regK (σ.nx + 8 * ops.toList.length) Q))
   | .tst k => aopsT S T ops.toList k σ.nx ops.toList σ.sl σ.H (regK (σ.nx + 8 * ops.toList.length) Q)
   | .wkp p => wkF S T ops.toList p σ.nx σ.sl σ.H Q
   | .drs p k => drF S SO T ops.toList p k σ.nx σ.sl σ.H Q
   | .drf p k f => dfF S SO T ops.toList p k f σ.nx σ.sl σ.H Q
   | .wks => wsF S T ops.toList σ.nx σ.sl σ.H Q
 | .seq a b,Q,σ => awpO S SO T pl a (seqK (awpO S SO T pl b Q) Q) σ
 | .cond c a b,Q,σ => match ev σ.sl c with
     | .w (.bool t) => csplit t (awpO S SO T pl a Q σ) (awpO S SO T pl b Q σ)
     | _ => False
 | .block id c,Q,σ => awpO S SO T pl c (zfm id Q) σ
 | .loop c,Q,σ => ALoop (awpO S SO T pl c) Q σ
 | .exit id,Q,σ => Q (.exit id) σ
 | .ret,Q,σ => Q .ret σ
 | _,_,_ => False
open Classical in
theorem awpO_sound {P : Program} {w0 : World} {E : Nat → Prop} {T : zac} {S SO : zal} {pl : XPlan} (hm : P.follows .mixedOrders = true) (hT : TOk P T) (hS : Fns P S) (hSO : FnsO P SO) {B : Bs} : ∀ (c : Code) (Q : Exit → ASt → Prop) (σ : ASt) (a : Act) (w : World),
   zcg T pl c = true → awpO S SO T pl c Q σ → Rel w0 E B σ a w → c.wp P (Low w0 E B Q) a w := by
 intro c
 induction c with
 | skip => intro Q σ a w hdr h hr; exact wp_skip ⟨σ,hr,h⟩
 | label l => intro Q σ a w hdr h hr; exact wp_label ⟨σ,hr,h⟩
 | ret => intro Q σ a w hdr h hr; exact wp_ret ⟨σ,hr,h⟩
 | exit id => intro Q σ a w hdr h hr; exact wp_exit ⟨σ,hr,h⟩
 | region id ops draw =>
   intro Q σ a w hdr h hr
   obtain ⟨loc,hb,hr⟩ := hr
   obtain ⟨sl,H,nx⟩ := σ
   have hK : ∀ sl H a w loc,Base w0 B w loc → Rel' w0 E loc ⟨sl,H,nx + 8 * ops.toList.length⟩ a w → regK (nx + 8 * ops.toList.length) Q sl H → Low w0 E B Q .normal a w := fun sl H a w loc h1 h2 h3 => ⟨_,⟨loc,h1,h2⟩,h3⟩
   simp only [zcg] at hdr
   simp only [awpO] at h
   cases hp : pl id with
   | std =>
     simp only [hp] at hdr h
     cases draw with
     | false => exact wp_region_list (zcw hT hS hK ops.toList nx sl H a w loc rfl hb hr h)
     | true => exact zen hT hS hm w0 E ops.toList _ _ B nx sl H a w loc id (by simpa using hdr) hK hb hr h
   | prs p =>
     simp only [hp] at hdr h
     simp only [Bool.and_eq_true] at hdr
     obtain ⟨hd1,hd2⟩ := hdr
     subst hd1
     exact drawF_sound hT hS hm hd2 hK hb hr h
   | frz fs =>
     simp only [hp] at hdr h
     obtain ⟨sl',H',hw,h⟩ := frzK_sound (nx := nx) _ _ _ _ h
     obtain ⟨loc',hb',hr'⟩ := hw _ _ _ _ _ ⟨loc,hb,hr⟩
     cases draw with
     | false => exact wp_region_list (zcw hT hS hK ops.toList nx sl' H' a w loc' rfl hb' hr' h)
     | true => exact zen hT hS hm w0 E ops.toList _ _ B nx sl' H' a w loc' id (by simpa using hdr) hK hb' hr' h
   | opn fs k =>
     simp only [hp] at hdr h
     obtain ⟨sl',H',hw,h⟩ := frzK_sound (nx := nx) _ _ _ _ h
     obtain ⟨loc',hb',hr'⟩ := hw _ _ _ _ _ ⟨loc,hb,hr⟩
     cases draw with
     | false => exact wp_region_list (zfe hT hS hSO hK k ops.toList nx sl' H' a w loc' rfl hb' hr' h)
     | true => simp at hdr
   | tst k =>
     simp only [hp] at hdr h
     cases draw with
     | false => exact wp_region_list (aopsT_sound hT hS hK k ops.toList nx sl H a w loc rfl hb hr h)
     | true => simp at hdr
   | wkp p =>
     simp only [hp] at hdr h
     simp only [Bool.and_eq_true] at hdr
     obtain ⟨hd1,hd2⟩ := hdr
     subst hd1
     obtain ⟨sl',H',hw,h⟩ := h
     obtain ⟨loc',hb',hr'⟩ := hw _ _ _ _ _ ⟨loc,hb,hr⟩
     exact drawF_sound hT hS hm hd2 hK hb' hr' h
   | wks =>
     simp only [hp] at hdr h
     obtain ⟨sl',H',hw,h⟩ := h
     obtain ⟨loc',hb',hr'⟩ := hw _ _ _ _ _ ⟨loc,hb,hr⟩
     cases draw with
     | false => exact wp_region_list (zcw hT hS hK ops.toList nx sl' H' a w loc' rfl hb' hr' h)
     | true => exact zen hT hS hm w0 E ops.toList _ _ B nx sl' H' a w loc' id (by simpa using hdr) hK hb' hr' h
   | drs p k =>
     simp only [hp] at hdr h
     simp only [Bool.and_eq_true,decide_eq_true_eq] at hdr
     obtain ⟨hd1,hd0,hd2,hd3⟩ := hdr
     subst hd1
     obtain ⟨sl',H',hw,h⟩ := h
     obtain ⟨loc',hb',hr'⟩ := hw _ _ _ _ _ ⟨loc,hb,hr⟩
     have hlk : (ops.toList.take k).length = k := by rw [List.length_take]; omega
     have e : ops = (ops.toList.take k ++ ops.toList.drop k).toArray := by rw [List.take_append_drop]
     have e2 : ops.toList.take k ++ ops.toList.drop k = ops.toList := List.take_append_drop _ _
     have hz : nx + 8 * ops.toList.length = nx + 8 * k + 8 * (ops.toList.drop k).length := by rw [List.length_drop]; omega
     rw [e]
     refine drawT_sound (l := ops.toList.take k) (suf := ops.toList.drop k) (fl := k) hT hS hm hd2 (by rw [hlk,e2]; exact hd3) (fun sl2 H2 a2 w2 loc2 hb2 hr2 hq => ?_) (fun of c hof => by rw [List.getElem?_eq_none (by omega)] at hof; cases hof) hb' hr' h
     rw [hlk] at hr2
     refine zfe (ops := (ops.toList.take k ++ ops.toList.drop k).toArray) hT hS hSO hK 0 (ops.toList.drop k) (nx + 8 * k) sl2 H2 a2 w2 loc2 hz hb2 hr2 ?_
     rw [← e]; exact hq
   | drf p k f =>
     simp only [hp] at hdr h
     simp only [Bool.and_eq_true,decide_eq_true_eq] at hdr
     obtain ⟨hd1,⟨hd0,hdf⟩,hd2,hd3,hd4⟩ := hdr
     subst hd1
     obtain ⟨sl',H',hw,h⟩ := h
     obtain ⟨loc',hb',hr'⟩ := hw _ _ _ _ _ ⟨loc,hb,hr⟩
     have hlk : (ops.toList.take k).length = k := by rw [List.length_take]; omega
     have e : ops = (ops.toList.take k ++ ops.toList.drop k).toArray := by rw [List.take_append_drop]
     have e2 : ops.toList.take k ++ ops.toList.drop k = ops.toList := List.take_append_drop _ _
     have hdl : (ops.toList.drop k).length = ops.toList.length - k := List.length_drop
     have hK1 : ∀ sl H a w loc,Base w0 B w loc → Rel' w0 E loc ⟨sl,H,nx + 8 * ops.toList.length⟩ a w → regK (nx + 8 * (ops.toList.length + 1)) Q sl H → Low w0 E B Q .normal a w := fun sl H a w loc h1 h2 h3 =>
       ⟨⟨sl,H,nx + 8 * (ops.toList.length + 1)⟩,⟨loc,h1,⟨h2.size,h2.slots,h2.heap,h2.env,fun id hid => h2.fresh id (by simp only at hid ⊢; omega),h2.defers,fun id b hl => by have := h2.low id b hl; simp only at this ⊢; omega⟩⟩,h3⟩
     have hK3 : ∀ sl H a w loc,Base w0 B w loc → Rel' w0 E loc ⟨sl,H,nx + 8 * (ops.toList.length + 1)⟩ a w → regK (nx + 8 * (ops.toList.length + 1)) Q sl H → Low w0 E B Q .normal a w := fun sl H a w loc h1 h2 h3 => ⟨_,⟨loc,h1,h2⟩,h3⟩
     rw [e]
     refine drawT_sound (l := ops.toList.take k) (suf := ops.toList.drop k) (fl := f) hT hS hm hd2 (by rw [hlk,e2]; exact hd3) (fun sl2 H2 a2 w2 loc2 hb2 hr2 hq => ?_) (fun of c hof hc => ?_) hb' hr' h
     · rw [hlk] at hr2
       refine zfe (ops := (ops.toList.take k ++ ops.toList.drop k).toArray) hT hS hSO hK1 0 (ops.toList.drop k) (nx + 8 * k) sl2 H2 a2 w2 loc2 (by omega) hb2 hr2 ?_
       rw [← e]; exact hq.1
     · have hof2 : ops.toList[f]? = some of := by
         rw [List.getElem?_take] at hof
         rw [if_pos hdf] at hof
         exact hof
       unfold floatAt at hd4
       rw [hof2] at hd4
       refine ⟨hd4,fun sl2 H2 a2 w2 loc2 hb2 hr2 hq => ?_⟩
       rw [hlk] at hr2
       have hdr : ops.toList.drop k = c :: (ops.toList.drop k).drop 1 := by
         cases hdd : ops.toList.drop k with
         | nil => rw [hdd] at hc; cases hc
         | cons x r => rw [hdd] at hc; injection hc with hc; subst hc; rfl
       have hq2 := hq.2
       have hbe : behindF ops.toList k f = c :: of :: (ops.toList.drop k).drop 1 := by
         unfold behindF
         rw [hof2]
         cases hdd : ops.toList.drop k with
         | nil => rw [hdd] at hc; cases hc
         | cons x r => rw [hdd] at hc; injection hc with hc; subst hc; rfl
       have hdst : dstF ops.toList f = of.dst := by unfold dstF; rw [hof2]
       rw [hbe,hdst] at hq2
       refine zfe (ops := (ops.toList.take k ++ ops.toList.drop k).toArray) hT hS hSO hK3 0 _ (nx + 8 * k) _ H2 a2 w2 loc2 (by simp only [List.length_cons,List.length_drop]; omega) hb2 hr2 ?_
       rw [← e]; exact hq2
 | seq x y ihx ihy =>
   intro Q σ a w hdr h hr
   refine wp_seq (wp_mono (ihx _ σ a w (by simp only [zcg,Bool.and_eq_true] at hdr; exact hdr.1) h hr) ?_)
   rintro e a' w' ⟨σ',hr',hq⟩
   cases e with
   | normal => exact ihy Q σ' a' w' (by simp only [zcg,Bool.and_eq_true] at hdr; exact hdr.2) hq hr'
   | _ => exact ⟨σ',hr',hq⟩
 | cond c x y ihx ihy =>
   intro Q σ a w hdr h hr
   simp only [awpO,csplit] at h
   simp only [zcg,Bool.and_eq_true] at hdr
   obtain ⟨loc,hb,hr⟩ := hr
   split at h
   · rename_i t hc
     have hv := ev_R hr.slots c
     rw [hc] at hv
     have hv := hv.wv
     cases t with
     | true => exact wp_cond_true hv (ihx Q σ a w hdr.1 (h.1 rfl) ⟨loc,hb,hr⟩)
     | false => exact wp_cond_false hv (ihy Q σ a w hdr.2 (h.2 rfl) ⟨loc,hb,hr⟩)
   · exact h.elim
 | block id c ih =>
   intro Q σ a w hdr h hr
   refine wp_block (wp_mono (ih _ σ a w hdr h hr) ?_)
   rintro e a' w' ⟨σ',hr',hq⟩
   cases e with
   | exit id' =>
     simp only [zfm,Exit.inBlock] at hq ⊢
     split at hq
     · rename_i he; rw [if_pos he]; exact ⟨σ',hr',hq⟩
     · rename_i he; rw [if_neg he]; exact ⟨σ',hr',hq⟩
   | _ => exact ⟨σ',hr',hq⟩
 | loop c ih =>
   intro Q σ a w hdr h hr
   obtain ⟨I,⟨n0,σ0,hw0,hI0⟩,hround⟩ := h
   let p : Act → World → Nat → Prop := fun a w n => ∃ σ,Rel w0 E B σ a w ∧ I n σ
   have hleast : ∀ a w,(∃ n,p a w n) → ∃ m,p a w m ∧ ∀ k,p a w k → m ≤ k := fun a w ⟨n,hn⟩ => let ⟨m,h1,_,h3⟩ := least n hn; ⟨m,h1,h3⟩
   let μ : Act → World → Nat := fun a w => if h : ∃ n,p a w n then Classical.choose (hleast a w h) else 0
   refine wp_loop (fun a w => ∃ n,p a w n) μ ⟨n0,σ0,hw0 w0 E B a w hr,hI0⟩ ?_
   intro a w hex
   have hμ : μ a w = Classical.choose (hleast a w hex) := dif_pos hex
   obtain ⟨⟨σ1,hr1,hI1⟩,hmin⟩ := Classical.choose_spec (hleast a w hex)
   rw [← hμ] at hI1
   refine wp_mono (ih _ σ1 a w hdr (hround _ σ1 hI1) hr1) ?_
   rintro e a' w' ⟨σ',hr',hq⟩
   cases e with
   | normal =>
     obtain ⟨m,σ2,hlt,hw2,hI2⟩ := hq
     have hp : p a' w' m := ⟨σ2,hw2 w0 E B a' w' hr',hI2⟩
     refine ⟨⟨m,hp⟩,?_⟩
     have hμ' : μ a' w' = Classical.choose (hleast a' w' ⟨m,hp⟩) := dif_pos ⟨m,hp⟩
     have := (Classical.choose_spec (hleast a' w' ⟨m,hp⟩)).2 m hp
     rw [← hμ'] at this
     exact Nat.lt_of_le_of_lt this hlt
   | _ =>
     obtain ⟨σ2,hw2,hq⟩ := hq
     exact ⟨σ2,hw2 w0 E B a' w' hr',hq⟩
 | _ => intro Q σ a w hdr h hr; exact h.elim
theorem fn_soundO {P : Program} {T : zac} {S SO : zal} (hm : P.follows .mixedOrders = true) (hT : TOk P T) (hS : Fns P S) (hSO : FnsO P SO) {f : FuncId} {fn : Func} {c : Code} (hf : P.funcs[f]? = some fn) (hb : fn.body = some c) {spec : zam}
   (h : ∀ xs pins,(spec xs pins).p → pins.length ≤ 4 ∧ ∃ pl,zcg T pl c = true ∧ awpO S SO T pl c (EndsWO T fn.results.toList pins (spec xs pins)) ⟨xs ++ List.replicate (fn.ntmps - xs.length) .junk,pinHeap 0 pins,4⟩) : SoundO P f spec :=
 sound_genO hT hf hb (Qp := fun xs pins => EndsWO T fn.results.toList pins (spec xs pins)) (fun _ _ _ _ h => h) (fun xs pins hp => ⟨(h xs pins hp).1,fun w0 E B a w hr => (h xs pins hp).2.elim fun pl hh => awpO_sound hm hT hS hSO c _ _ _ _ hh.1 hh.2 hr⟩)
theorem fn_soundOK {P : Program} {T : zac} {S SO : zal} (hm : P.follows .mixedOrders = true) (hT : TOk P T) (hS : Fns P S) (hSO : FnsO P SO) {f : FuncId} {fn : Func} {c : Code} (hf : P.funcs[f]? = some fn) (hb : fn.body = some c) {spec : zam}
   (h : ∀ xs pins,(spec xs pins).p → closedB pins = true → pins.length ≤ 4 ∧ ∃ pl,zcg T pl c = true ∧ awpO S SO T pl c (EndsW T fn.results.toList pins (spec xs pins)) ⟨xs ++ List.replicate (fn.ntmps - xs.length) .junk,pinHeap 0 pins,4⟩) : zaq P f spec :=
 sound_genK (S := S) hT hS hf hb (Qp := fun xs pins => EndsW T fn.results.toList pins (spec xs pins)) (fun _ _ _ _ h => h) (fun xs pins hp hc => ⟨(h xs pins hp hc).1,fun w0 E B a w hr => (h xs pins hp hc).2.elim fun pl hh => awpO_sound hm hT hS hSO c _ _ _ _ hh.1 hh.2 hr⟩)
def laterO (S SO : zal) (T : zac) (pl : XPlan) (b : Code) (Q : Exit → ASt → Prop) : Exit → ASt → Prop := seqK (awpO S SO T pl b Q) Q
section rules
variable {S SO : zal} {T : zac} {pl : XPlan} {Q : Exit → ASt → Prop} {σ : ASt}
theorem awpO_skip : awpO S SO T pl .skip Q σ = Q .normal σ := rfl
theorem awpO_label {l : Nat} : awpO S SO T pl (.label l) Q σ = Q .normal σ := rfl
theorem awpO_ret : awpO S SO T pl .ret Q σ = Q .ret σ := rfl
theorem awpO_exit {id : Nat} : awpO S SO T pl (.exit id) Q σ = Q (.exit id) σ := rfl
theorem awpO_region {id : Nat} {l : List Oper} {draw : Bool} : awpO S SO T pl (.region id l.toArray draw) Q σ = match pl id with
   | .std => aops S T l σ.nx l σ.sl σ.H (regK (σ.nx + 8 * l.length) Q)
   | .prs p => zdw S T l p σ.nx [] l σ.sl σ.H (regK (σ.nx + 8 * l.length) Q)
   | .frz fs => frzK fs σ.sl σ.H (fun sl H => aops S T l σ.nx l sl H (regK (σ.nx + 8 * l.length) Q))
   | .opn fs k => frzK fs σ.sl σ.H (fun sl H => aopsO S SO T l k σ.nx l sl H (regK (σ.nx + 8 * l.length) Q))
   | .tst k => aopsT S T l k σ.nx l σ.sl σ.H (regK (σ.nx + 8 * l.length) Q)
   | .wkp p => wkF S T l p σ.nx σ.sl σ.H Q
   | .drs p k => drF S SO T l p k σ.nx σ.sl σ.H Q
   | .drf p k f => dfF S SO T l p k f σ.nx σ.sl σ.H Q
   | .wks => wsF S T l σ.nx σ.sl σ.H Q := by
 unfold awpO; cases pl id <;> rfl
theorem awpO_seq {a b : Code} : awpO S SO T pl (.seq a b) Q σ = awpO S SO T pl a (laterO S SO T pl b Q) σ := rfl
theorem awpO_block {id : Nat} {c : Code} : awpO S SO T pl (.block id c) Q σ = awpO S SO T pl c (zfm id Q) σ := rfl
theorem awpO_cond {c : Operand} {a b : Code} : awpO S SO T pl (.cond c a b) Q σ = match ev σ.sl c with
     | .w (.bool t) => csplit t (awpO S SO T pl a Q σ) (awpO S SO T pl b Q σ)
     | _ => False := rfl
theorem awpO_loopW {c : Code} (h : ALoop (awpO S SO T pl c) Q σ) : awpO S SO T pl (.loop c) Q σ := h
theorem zad {b : Code} : laterO S SO T pl b Q .normal σ = awpO S SO T pl b Q σ := rfl
theorem laterO_exit {b : Code} {id : Nat} : laterO S SO T pl b Q (.exit id) σ = Q (.exit id) σ := rfl
theorem laterO_ret {b : Code} : laterO S SO T pl b Q .ret σ = Q .ret σ := rfl
variable {ops r : List Oper} {o : Oper} {nm k : Nat} {sl : List AV} {H : Heap} {Q' : List AV → Heap → Prop}
def openKO (q : Out) (sl : List AV) (dst : Option Tmp) (K : List AV → Heap → Prop) : Prop := q.p ∧ K (zan sl dst q.x) q.H
theorem openKO_def {q : Out} {dst : Option Tmp} {K : List AV → Heap → Prop} : openKO q sl dst K = (q.p ∧ K (zan sl dst q.x) q.H) := rfl
theorem aopsO_zero {dst : Option Tmp} {op : Op} {type : TypeId} {pos : String} {after : Array Edge} : aopsO S SO T ops 0 nm (⟨dst,op,type,pos,after,none⟩ :: r) sl H Q' =
   openKO (openOp SO T nm sl op H) sl dst (fun sl' H' => aops S T ops (nm + 8) r sl' H' Q') := by
 simp [aopsO,openKO]
theorem aopsO_succ {dst : Option Tmp} {op : Op} {type : TypeId} {pos : String} {after : Array Edge} : aopsO S SO T ops (k + 1) nm (⟨dst,op,type,pos,after,none⟩ :: r) sl H Q' =
   ((aop S T nm sl op H).p ∧ aopsO S SO T ops k (nm + 8) r (zan sl dst (aop S T nm sl op H).x) (aop S T nm sl op H).H Q') := by
 simp [aopsO]
theorem aopsT_nil : aopsT S T ops [] nm r sl H Q' = aops S T ops nm r sl H Q' := by
 cases r <;> rfl
theorem aopsT_done {l : List Bool} : aopsT S T ops l nm [] sl H Q' = Q' sl H := by
 cases l with
 | nil => rfl
 | cons b _ => cases b <;> rfl
theorem aopsT_t {l : List Bool} {dst : Option Tmp} {op : Op} {type : TypeId} {pos : String} {after : Array Edge} : aopsT S T ops (true :: l) nm (⟨dst,op,type,pos,after,none⟩ :: r) sl H Q' =
   (specOpH T sl op H (fun x H => aopsT S T ops l (nm + 8) r (zan sl dst x) H Q')) := by
 simp [aopsT]
theorem aopsT_f {l : List Bool} {dst : Option Tmp} {op : Op} {type : TypeId} {pos : String} {after : Array Edge} : aopsT S T ops (false :: l) nm (⟨dst,op,type,pos,after,none⟩ :: r) sl H Q' =
   ((aop S T nm sl op H).p ∧ aopsT S T ops l (nm + 8) r (zan sl dst (aop S T nm sl op H).x) (aop S T nm sl op H).H Q') := by
 simp [aopsT]
end rules
end Ax
end Go.Proofs.Ytlcijldkdpmknaa
namespace Go.Proofs.Ytlcijldkdpmknaa
open Ax
theorem evTO : (type_of% @awpO_skip) ∧
   (type_of% @awpO_label) ∧
   (type_of% @awpO_ret) ∧
   (type_of% @awpO_exit) ∧
   (type_of% @awpO_region) ∧
   (type_of% @awpO_seq) ∧
   (type_of% @awpO_block) ∧
   (type_of% @awpO_cond) ∧
   (type_of% @laterO_exit) ∧
   (type_of% @laterO_ret) ∧
   (type_of% @aopsO_zero) ∧
   (type_of% @aopsO_succ) ∧
   (type_of% @aopsT_nil) ∧
   (type_of% @aopsT_done) ∧
   (type_of% @aopsT_t) ∧
   (type_of% @aopsT_f) :=
 ⟨@awpO_skip,@awpO_label,@awpO_ret,@awpO_exit,@awpO_region,@awpO_seq,@awpO_block,@awpO_cond,@laterO_exit,@laterO_ret,@aopsO_zero,@aopsO_succ,@aopsT_nil,@aopsT_done,@aopsT_t,@aopsT_f⟩
theorem evDO : (type_of% @Ax.frzS.eq_1) ∧
   (type_of% @Ax.frzL.eq_1) ∧
   (type_of% @Ax.frzL.eq_2) ∧
   (type_of% @Ax.fzL.eq_1) ∧
   (type_of% @Ax.fzL.eq_2) ∧
   (type_of% @Ax.fzH.eq_1) ∧
   (type_of% @Ax.fzH.eq_2) ∧
   (type_of% @Ax.AV.fz.eq_1) ∧
   (type_of% @Ax.AV.fz.eq_2) ∧
   (type_of% @Ax.AV.fz.eq_3) ∧
   (type_of% @Ax.AV.fz.eq_4) ∧
   (type_of% @Ax.AV.fz.eq_5) ∧
   (type_of% @Ax.fiL.eq_1) ∧
   (type_of% @Ax.fiL.eq_2) ∧
   (type_of% @Ax.fiH.eq_1) ∧
   (type_of% @Ax.fiH.eq_2) ∧
   (type_of% @Ax.AV.fi.eq_1) ∧
   (type_of% @Ax.AV.fi.eq_2) ∧
   (type_of% @Ax.AV.fi.eq_3) ∧
   (type_of% @Ax.AV.fi.eq_4) ∧
   (type_of% @Ax.AV.fi.eq_5) ∧
   (type_of% @Ax.fgL.eq_1) ∧
   (type_of% @Ax.fgL.eq_2) ∧
   (type_of% @Ax.fgH.eq_1) ∧
   (type_of% @Ax.fgH.eq_2) ∧
   (type_of% @Ax.AV.fg.eq_1) ∧
   (type_of% @Ax.AV.fg.eq_2) ∧
   (type_of% @Ax.AV.fg.eq_3) ∧
   (type_of% @Ax.AV.fg.eq_4) ∧
   (type_of% @Ax.AV.fg.eq_5) ∧
   (type_of% @Ax.aOpen.eq_1) ∧
   (type_of% @Ax.openOut.eq_1) ∧
   (type_of% @Ax.reach.eq_1) ∧
   (type_of% @Ax.reach.eq_2) ∧
   (type_of% @Ax.reach.eq_3) ∧
   (type_of% @Ax.walk.eq_1) ∧
   (type_of% @Ax.walk.eq_2) ∧
   (type_of% @Ax.allIn.eq_1) ∧
   (type_of% @Ax.allIn.eq_2) ∧
   (type_of% @Ax.pinsIn.eq_1) ∧
   (type_of% @Ax.pinsIn.eq_2) ∧
   (type_of% @Ax.pinsR.eq_1) ∧
   (type_of% @Ax.pinsR.eq_2) ∧
   (type_of% @Ax.backO.eq_1) ∧
   (type_of% @Ax.backO.eq_2) ∧
   (type_of% @Ax.gone.eq_1) ∧
   (type_of% @Ax.AV.sids.eq_1) ∧
   (type_of% @Ax.AV.sids.eq_2) ∧
   (type_of% @Ax.AV.sids.eq_3) ∧
   (type_of% @Ax.AV.sids.eq_4) ∧
   (type_of% @Ax.AV.sids.eq_5) ∧
   (type_of% @Ax.AV.sids.eq_6) ∧
   (type_of% @Ax.sidsL.eq_1) ∧
   (type_of% @Ax.sidsL.eq_2) ∧
   (type_of% @Ax.AV.sidsH.eq_1) ∧
   (type_of% @Ax.AV.sidsH.eq_2) ∧
   (type_of% @Ax.AV.sidsH.eq_3) ∧
   (type_of% @Ax.AV.sidsH.eq_4) ∧
   (type_of% @Ax.AV.sidsH.eq_5) ∧
   (type_of% @Ax.AV.sidsH.eq_6) ∧
   (type_of% @Ax.sidsLH.eq_1) ∧
   (type_of% @Ax.sidsLH.eq_2) ∧
   (type_of% @Ax.Blk.renB.eq_1) ∧
   (type_of% @Ax.idxOf.eq_1) ∧
   (type_of% @Ax.EndsXO.eq_1) ∧
   (type_of% @Ax.endIds.eq_1) ∧
   (type_of% @Ax.reachE.eq_1) ∧
   (type_of% @Ax.reachE.eq_2) ∧
   (type_of% @Ax.reachE.eq_3) ∧
   (type_of% @Ax.idsAt.eq_1) ∧
   (type_of% @Ax.idsAtL.eq_1) ∧
   (type_of% @Ax.idsAtL.eq_2) ∧
   (type_of% @Ax.walkI.eq_1) ∧
   (type_of% @Ax.walkI.eq_2) ∧
   (type_of% @Ax.matchE.eq_1) ∧
   (type_of% @Ax.matchE.eq_2) ∧
   (type_of% @Ax.matchE.eq_3) ∧
   (type_of% @Ax.aopF.eq_1) ∧
   (type_of% @Ax.foot.eq_1) ∧
   (type_of% @Ax.footA.eq_1) ∧
   (type_of% @Ax.keepIn.eq_1) ∧
   (type_of% @Ax.keepIn.eq_2) ∧
   (type_of% @Ax.dropIn.eq_1) ∧
   (type_of% @Ax.dropIn.eq_2) ∧
   (type_of% @Ax.bids.eq_1) ∧
   (type_of% @Ax.bids.eq_2) ∧
   (type_of% @Ax.heldB.eq_1) ∧
   (type_of% @Ax.memOk.eq_1) ∧
   (type_of% @Ax.clearOf.eq_1) :=
 ⟨@Ax.frzS.eq_1,@Ax.frzL.eq_1,@Ax.frzL.eq_2,@Ax.fzL.eq_1,@Ax.fzL.eq_2,@Ax.fzH.eq_1,@Ax.fzH.eq_2,@Ax.AV.fz.eq_1,@Ax.AV.fz.eq_2,@Ax.AV.fz.eq_3,@Ax.AV.fz.eq_4,@Ax.AV.fz.eq_5,@Ax.fiL.eq_1,@Ax.fiL.eq_2,@Ax.fiH.eq_1,@Ax.fiH.eq_2,@Ax.AV.fi.eq_1,@Ax.AV.fi.eq_2,@Ax.AV.fi.eq_3,@Ax.AV.fi.eq_4,@Ax.AV.fi.eq_5,@Ax.fgL.eq_1,@Ax.fgL.eq_2,@Ax.fgH.eq_1,@Ax.fgH.eq_2,@Ax.AV.fg.eq_1,@Ax.AV.fg.eq_2,@Ax.AV.fg.eq_3,@Ax.AV.fg.eq_4,@Ax.AV.fg.eq_5,@Ax.aOpen.eq_1,@Ax.openOut.eq_1,@Ax.reach.eq_1,@Ax.reach.eq_2,@Ax.reach.eq_3,@Ax.walk.eq_1,@Ax.walk.eq_2,@Ax.allIn.eq_1,@Ax.allIn.eq_2,@Ax.pinsIn.eq_1,@Ax.pinsIn.eq_2,@Ax.pinsR.eq_1,@Ax.pinsR.eq_2,@Ax.backO.eq_1,@Ax.backO.eq_2,@Ax.gone.eq_1,@Ax.AV.sids.eq_1,@Ax.AV.sids.eq_2,@Ax.AV.sids.eq_3,@Ax.AV.sids.eq_4,@Ax.AV.sids.eq_5,@Ax.AV.sids.eq_6,@Ax.sidsL.eq_1,@Ax.sidsL.eq_2,@Ax.AV.sidsH.eq_1,@Ax.AV.sidsH.eq_2,@Ax.AV.sidsH.eq_3,@Ax.AV.sidsH.eq_4,@Ax.AV.sidsH.eq_5,@Ax.AV.sidsH.eq_6,@Ax.sidsLH.eq_1,@Ax.sidsLH.eq_2,@Ax.Blk.renB.eq_1,@Ax.idxOf.eq_1,@Ax.EndsXO.eq_1,@Ax.endIds.eq_1,@Ax.reachE.eq_1,@Ax.reachE.eq_2,@Ax.reachE.eq_3,@Ax.idsAt.eq_1,@Ax.idsAtL.eq_1,@Ax.idsAtL.eq_2,@Ax.walkI.eq_1,@Ax.walkI.eq_2,@Ax.matchE.eq_1,@Ax.matchE.eq_2,@Ax.matchE.eq_3,@Ax.aopF.eq_1,@Ax.foot.eq_1,@Ax.footA.eq_1,@Ax.keepIn.eq_1,@Ax.keepIn.eq_2,@Ax.dropIn.eq_1,@Ax.dropIn.eq_2,@Ax.bids.eq_1,@Ax.bids.eq_2,@Ax.heldB.eq_1,@Ax.memOk.eq_1,@Ax.clearOf.eq_1⟩
open Ax
attribute [go_sem] evDO evTO specOpH specNext openOp firmB Blk.isGone Blk.idsB Blk.sidsB Blk.ren EndsO
attribute [go_sem ↓] openKO_def
end Go.Proofs.Ytlcijldkdpmknaa
namespace Go.Proofs.Ytlcijldkdpmknaa
open Ax
theorem sg_false {w : World} {loc : Ax.Loc} {v : Value} {s : Nat} (s' : Nat) {f : Bool} (h : R w loc (.sg s [] f) v) : R w loc (.sg s' [] false) v := by
 cases h with
 | sg _ _ _ a cap cs hd hs hc hl hx hh => exact .sg s' [] false a cap cs ⟨hd.le,hd.top,fun h => by cases h⟩ (by simp) hc hl hx hh
def cloneRS : zam
 | [.sg 6 xs f],[] => ⟨xs.length ≤ 1000000 ∧ ∃ rs : List Rec,xs = rs.map rv,.sg 6 xs false,[]⟩
 | _,_ => zay
def cloneRPl : XPlan := fun id => match id with
 | 1 => .tst [false,true]
 | _ => .std
def cloneRPl0 : XPlan := fun id => match id with
 | 1 => .tst [false,true]
 | 3 => .tst [true,false,true]
 | _ => .std
section
set_option maxRecDepth 100000
set_option maxHeartbeats 1000000 in
theorem cloneR_sound : zaq Try.prog 41 cloneRS := by
 refine fn_soundOK (S := noS) (SO := noO) (T := ty) zat ty_ok zbo noO_ok Try.func41 (c := Try.f41.body.getD .skip) (by kernel_rfl) (fun xs pins hp _ => ?_)
 unfold cloneRS at hp ⊢
 split at hp
 · rename_i xs f _
   obtain ⟨hL,rs,rfl⟩ := hp
   rw [List.length_map] at hL
   have hl4 : (rs.map rv).length = rs.length := by simp
   by_cases hz : rs.length = 0
   · obtain rfl : rs = [] := List.eq_nil_of_length_eq_zero hz
     refine ⟨by simp,cloneRPl0,by kernel_rfl,?_⟩
     unfold Try.f41
     simp only [go_sem,zad,Nat.reduceAdd,Nat.reduceSub,Nat.reduceMul,Int.reduceToNat,reduceCtorEq,↓reduceIte,Int.reducePow,Nat.reducePow,Int.reduceMod,Nat.reduceLeDiff,Int.reduceLE,Int.reduceNe,Int.reduceEq,Nat.reduceEqDiff,Nat.reduceLT,Nat.reduceBEq,List.map_cons,List.map_nil,List.toList_toArray,Array.toList_append,Option.toArray_some,Option.toArray_none,Bool.and_self,ty,noS,cloneRPl0,specOp,hl4]
     repeat (refine And.intro (by omega) ?_)
     intro b
     refine ⟨fun hb => ?_,fun hb => ?_⟩
     · refine ⟨_,zbl 2 (.sg 6 [] false) (fun w loc v h => sg_false 6 h),?_⟩
       simp only [go_sem,zad,Nat.reduceAdd,Nat.reduceSub,Nat.reduceMul,Int.reduceToNat,reduceCtorEq,↓reduceIte,Int.reducePow,Nat.reducePow,Int.reduceMod,Nat.reduceLeDiff,Int.reduceLE,Int.reduceNe,Int.reduceEq,Nat.reduceEqDiff,Nat.reduceLT,Nat.reduceBEq,List.map_cons,List.map_nil,List.toList_toArray,Array.toList_append,Option.toArray_some,Option.toArray_none,Bool.and_self,ty,noS]
     · refine ⟨_,zbl 2 (.sg 6 [] false) (fun w loc v h => sg_false 6 h),?_⟩
       simp only [go_sem,zad,Nat.reduceAdd,Nat.reduceSub,Nat.reduceMul,Int.reduceToNat,reduceCtorEq,↓reduceIte,Int.reducePow,Nat.reducePow,Int.reduceMod,Nat.reduceLeDiff,Int.reduceLE,Int.reduceNe,Int.reduceEq,Nat.reduceEqDiff,Nat.reduceLT,Nat.reduceBEq,List.map_cons,List.map_nil,List.toList_toArray,Array.toList_append,Option.toArray_some,Option.toArray_none,Bool.and_self,ty,noS]
   · refine ⟨by simp,cloneRPl,by kernel_rfl,?_⟩
     have htop : rs.length ≤ top := by unfold top; omega
     unfold Try.f41
     simp only [go_sem,zad,Nat.reduceAdd,Nat.reduceSub,Nat.reduceMul,Int.reduceToNat,reduceCtorEq,↓reduceIte,Int.reducePow,Nat.reducePow,Int.reduceMod,Nat.reduceLeDiff,Int.reduceLE,Int.reduceNe,Int.reduceEq,Nat.reduceEqDiff,Nat.reduceLT,Nat.reduceBEq,List.map_cons,List.map_nil,List.toList_toArray,Array.toList_append,Option.toArray_some,Option.toArray_none,Bool.and_self,ty,noS,cloneRPl,specOp,hl4]
     repeat (refine And.intro (by omega) ?_)
     intro b hb
     obtain rfl : b = false := by cases b with | false => rfl | true => exact absurd (hb rfl) hz
     simp only [go_sem,zad,Nat.reduceAdd,Nat.reduceSub,Nat.reduceMul,Int.reduceToNat,reduceCtorEq,↓reduceIte,Int.reducePow,Nat.reducePow,Int.reduceMod,Nat.reduceLeDiff,Int.reduceLE,Int.reduceNe,Int.reduceEq,Nat.reduceEqDiff,Nat.reduceLT,Nat.reduceBEq,List.map_cons,List.map_nil,List.toList_toArray,Array.toList_append,Option.toArray_some,Option.toArray_none,Bool.and_self,ty,noS,cloneRPl,specOp,hl4,cond_false]
     exact ⟨htop,g1_ends 2 rfl rfl (closed_rv _) hl4.symm rfl⟩
 · exact hp.elim
def zds (B : Int) (l : List Bat) (x : Bat) : Int := if bE x = 0 then (if x.b < lastN B l then 16 else 0) else bE x
def zec (B : Int) (l : List Bat) (x : Bat) : AV := if zds B l x = 0 then .agg [.w (.int .i64 B),.sg 6 (bfr (l ++ [x])) false] else .agg [.w (.int .i64 0),.sg 6 [] true]
def sputS : zam
 | [.agg [.w (.int .i64 B),.sg 6 xs f],.agg [.w (.int .i64 b),.w (.int .i64 c),.w (.int .i64 p),.w (.int .i64 e),.w (.int .i64 s),.sg 6 ys g]],[] => ⟨(xs.length ≤ 1000000 ∧ isBl xs) ∧ ys.length ≤ 1000000 ∧ ∃ rs : List Rec,ys = rs.map rv,
     .tup [zec B (xs.map ubat) ⟨b,c,p,e,s,ys.map rrec⟩,.w (.int .i64 (zds B (xs.map ubat) ⟨b,c,p,e,s,ys.map rrec⟩))],[]⟩
 | _,_ => zay
def Sput14 (f : FuncId) : Option zam :=
 match f with
 | 40 => some bchkS4
 | 24 => some zer
 | 41 => some cloneRS
 | _ => none
theorem Sput14_ok : Fns Try.prog Sput14 := by
 intro f s h
 unfold Sput14 at h
 split at h
 · injection h with h; subst h; exact ⟨⟨_,Try.func40,by kernel_rfl,by kernel_rfl⟩,bchk4_sound⟩
 · injection h with h; subst h; exact ⟨⟨_,Try.func24,by kernel_rfl,by kernel_rfl⟩,snext_sound⟩
 · injection h with h; subst h; exact ⟨⟨_,Try.func41,by kernel_rfl,by kernel_rfl⟩,cloneR_sound⟩
 · cases h
theorem isBl_isBs {xs : List AV} (h : isBl xs) : isBs xs := by
 obtain ⟨es,rfl,he⟩ := h
 exact ⟨es,rfl,fun p hp => by have := he p hp; omega⟩
set_option maxHeartbeats 4000000 in
theorem sput_sound : zaq Try.prog 22 sputS := by
 refine zey (S := Sput14) (T := tyF) zat tyF_ok Sput14_ok Try.func22 (c := Try.f22.body.getD .skip) (by kernel_rfl) (by kernel_rfl) (fun xs pins hp _ => ?_)
 unfold sputS at hp ⊢
 split at hp
 · rename_i B xs f b c p e s ys g _
   obtain ⟨⟨hL,hxs⟩,hLy,rs,rfl⟩ := hp
   have hbs := isBl_isBs hxs
   obtain ⟨es,rfl,he⟩ := hxs
   rw [List.length_map] at hL hLy
   refine ⟨by simp,?_⟩
   have hlp : (es.map bvp).length = es.length := by simp
   have n0 : es.length ≤ 9223372036854775807 := by omega
   have n1 : (rs.map rv).length ≤ 9223372036854775807 := by rw [List.length_map]; omega
   have x1 : ∃ k : List Rec,rs.map rv = k.map rv := ⟨rs,rfl⟩
   have r1 := zaj rs
   have mu := zaz es
   rw [r1,mu]
   obtain ⟨l,hl⟩ : ∃ l,es.map Prod.fst = l := ⟨_,rfl⟩
   rw [hl] at mu ⊢
   have hlq : l.length = es.length := by subst hl; simp
   have ht : top = 4294967296 := rfl
   obtain ⟨N,hN⟩ : ∃ N,lastN B l = N := ⟨_,rfl⟩
   obtain ⟨E,hE⟩ : ∃ E,batE b c p e s rs = E := ⟨_,rfl⟩
   have hbE : bE ⟨b,c,p,e,s,rs⟩ = E := hE
   unfold Try.f22
   by_cases g1 : E = 0
   · have d1 : decide (E = 0) = true := decide_eq_true g1
     by_cases g2 : b < N
     · have d2 : decide (b < N) = true := decide_eq_true g2
       have hv : zds B l ⟨b,c,p,e,s,rs⟩ = 16 := by unfold zds; rw [hbE,if_pos g1,hN,if_pos g2]
       have hA : zec B l ⟨b,c,p,e,s,rs⟩ = .agg [.w (.int .i64 0),.sg 6 [] true] := by unfold zec; rw [hv]; rfl
       simp only [go_sem,zaa,Nat.reduceAdd,Nat.reduceSub,Nat.reduceMul,Int.reduceToNat,reduceCtorEq,↓reduceIte,Int.reducePow,Nat.reducePow,Int.reduceMod,Nat.reduceLeDiff,Int.reduceLE,Int.reduceNe,Int.reduceEq,Nat.reduceEqDiff,Nat.reduceLT,Nat.reduceBEq,tyF,zau,ty,Sput14,bchkS4,zer,hlp,n0,n1,x1,r1,mu,hbs,hE,hN,d1,d2,Bool.not_true,fillS]
       refine ⟨_,Weak.refl _,?_⟩
       simp only [go_sem,zaa,Nat.reduceAdd,Nat.reduceSub,Nat.reduceMul,Int.reduceToNat,reduceCtorEq,↓reduceIte,Int.reducePow,Nat.reducePow,Int.reduceMod,Nat.reduceLeDiff,Int.reduceLE,Int.reduceNe,Int.reduceEq,Nat.reduceEqDiff,Nat.reduceLT,Nat.reduceBEq,tyF,zau,ty,hv,hA,fillS]
     · have d2 : decide (b < N) = false := decide_eq_false g2
       have hv : zds B l ⟨b,c,p,e,s,rs⟩ = 0 := by unfold zds; rw [hbE,if_pos g1,hN,if_neg g2]
       have hA : zec B l ⟨b,c,p,e,s,rs⟩ = .agg [.w (.int .i64 B),.sg 6 (bfr (l ++ [⟨b,c,p,e,s,rs⟩])) false] := by unfold zec; rw [hv]; rfl
       have e0 : ((es.length : Int) + 1 + 9223372036854775808) % 18446744073709551616 - 9223372036854775808 = ((es.length + 1 : Nat) : Int) := by omega
       have tk0 : List.take (es.length - 0) (es.map bvp) = es.map bvp := List.take_of_length_le (by simp)
       have dll : decide (es.length = es.length) = true := decide_eq_true rfl
       have hrep : ∀ a : AV,List.replicate 0 a = [] := fun a => rfl
       have t0 : (0 : Int).toNat = 0 := rfl
       simp only [go_sem,zaa,Nat.reduceAdd,Nat.reduceSub,Nat.reduceMul,Int.reduceToNat,reduceCtorEq,↓reduceIte,Int.reducePow,Nat.reducePow,Int.reduceMod,Nat.reduceLeDiff,Int.reduceLE,Int.reduceNe,Int.reduceEq,Nat.reduceEqDiff,Nat.reduceLT,Nat.reduceBEq,tyF,zau,ty,Sput14,bchkS4,zer,hlp,n0,n1,x1,r1,mu,hbs,hE,hN,d1,d2,e0,tk0,dll,hrep,t0,Int.toNat_natCast,Bool.not_true]
       repeat (refine And.intro (by omega) ?_)
       have hzs : es.map bvp ++ [.agg [.w (.int .i64 b),.w (.int .i64 c),.w (.int .i64 p),.w (.int .i64 e),.w (.int .i64 s),.sg 6 (rs.map rv) g]] = (es ++ [((⟨b,c,p,e,s,rs⟩ : Bat),g)]).map bvp := by rw [List.map_append]; rfl
       have hzl : l ++ [(⟨b,c,p,e,s,rs⟩ : Bat)] = (es ++ [((⟨b,c,p,e,s,rs⟩ : Bat),g)]).map Prod.fst := by rw [List.map_append,hl]; rfl
       have hze : ∀ q ∈ es ++ [((⟨b,c,p,e,s,rs⟩ : Bat),g)],q.1.rs.length ≤ 1000000 := by
         intro q hq
         rcases List.mem_append.1 hq with h | h
         · exact he q h
         · simp at h; subst h; exact hLy
       have hzn : es.length + 1 = (es ++ [((⟨b,c,p,e,s,rs⟩ : Bat),g)]).length := by simp
       rw [hzl] at hA
       rw [hzs,hzn]
       clear hzs hzl
       generalize hZ : es ++ [((⟨b,c,p,e,s,rs⟩ : Bat),g)] = zs at *
       obtain ⟨Y,hY⟩ : ∃ Y,zs.map Prod.fst = Y := ⟨_,rfl⟩
       rw [hY] at hA
       have hYl : Y.length = zs.length := by subst hY; simp
       have hzL : zs.length ≤ 1000001 := by omega
       have hzp : (zs.map bvp).length = zs.length := by simp
       refine zas ⟨fun m σ => ∃ (i : Nat),m = zs.length - i ∧ i ≤ zs.length ∧
           σ = ⟨[.agg [.w (.int .i64 B),.sg 6 (es.map bvp) f],.agg [.w (.int .i64 b),.w (.int .i64 c),.w (.int .i64 p),.w (.int .i64 e),.w (.int .i64 s),.sg 6 (rs.map rv) g],.rf 4 2 0 0,.rf 5 6 0 0,.rf 6 2 0 0,.w (.int .i64 0),.junk,.ms 8 6 0 i,.junk,.junk,.junk,.junk,.junk,.junk,.junk,.junk,.junk,.junk,.junk,.junk,.junk,.junk,.junk,.junk,.junk,.junk,.junk,.junk,.junk,.junk,.junk,.junk,.junk,.junk,.junk,.junk,.junk,.junk,.ms 7 6 0 zs.length,.w (.int .i64 zs.length),.w (.int .i64 i),.junk,.junk,.junk,.junk,.junk,.junk,.junk,.junk,.junk,.junk,.junk,.junk,.junk,.junk,.junk,.junk],
             [(4,.g 2 [.agg [.w (.int .i64 B),.sg 6 (es.map bvp) f]]),(5,.g 6 [.agg [.w (.int .i64 b),.w (.int .i64 c),.w (.int .i64 p),.w (.int .i64 e),.w (.int .i64 s),.sg 6 (rs.map rv) g]]),(6,.g 2 [.agg [.w (.int .i64 0),.sg 6 [] true]]),(7,.g 6 (zs.map bvp)),(8,.g 6 (bfr (Y.take i)))],9⟩,?_,?_⟩
       · refine ⟨_,_,zab [0,1,2,3,4,12,20,252,148] rfl rfl rfl ?_ ?_,0,rfl,by omega,rfl⟩
         · simp only [ssT,zae,zaf,setSlot,gOf,AV.ren,renL,Blk.ren,Ax.look,Ax.put,reduceCtorEq,↓reduceIte,Nat.reduceEqDiff,Nat.reduceLT,Nat.reduceAdd,List.length_append,List.length_cons,List.length_nil,Option.some.injEq]; try simp
         · simp only [ssT,zae,zaf,setSlot,gOf,AV.ren,renL,Blk.ren,Ax.look,Ax.put,reduceCtorEq,↓reduceIte,Nat.reduceEqDiff,Nat.reduceLT,Nat.reduceAdd,List.length_append,List.length_cons,List.length_nil,Option.some.injEq,List.take_zero,bfr_nil,ren_bvp,ren_bfr]; try simp
       · rintro m σ ⟨i,rfl,hi,rfl⟩
         have e1 : ((i : Int) + 1 + 9223372036854775808) % 18446744073709551616 - 9223372036854775808 = ((i + 1 : Nat) : Int) := by omega
         have hml : (bfr (Y.take i)).length = i := by rw [len_bfr,List.length_take]; omega
         by_cases hil : i < zs.length
         · have d3 : decide ((i : Int) < zs.length) = true := decide_eq_true (by omega)
           have hs1 := zbb zs i hil
           have m1 := hze zs[i] (List.getElem_mem hil)
           have hyi : Y.take (i + 1) = Y.take i ++ [zs[i].1] := by
             rw [List.take_succ_eq_append_getElem (by omega)]
             subst hY; simp
           obtain ⟨P,hP⟩ : ∃ P,zs[i] = P := ⟨_,rfl⟩
           rw [hP] at hs1 m1 hyi
           obtain ⟨⟨b2,c2,p2,e2,s2,qs⟩,f'⟩ := P
           have hs1 : slot (zs.map bvp) i = .agg [.w (.int .i64 b2),.w (.int .i64 c2),.w (.int .i64 p2),.w (.int .i64 e2),.w (.int .i64 s2),.sg 6 (qs.map rv) f'] := hs1
           simp only at m1
           have n2 : (qs.map rv).length ≤ 1000000 := by rw [List.length_map]; exact m1
           have x2 : ∃ k : List Rec,qs.map rv = k.map rv := ⟨qs,rfl⟩
           have hc2 : ∀ h,coe (zau ty) 37 (.sg 6 (qs.map rv) h) = .sg 6 (qs.map rv) h := fun h => by cases qs <;> rfl
           simp only [go_sem,zaa,Nat.reduceAdd,Nat.reduceSub,Nat.reduceMul,Int.reduceToNat,reduceCtorEq,↓reduceIte,Int.reducePow,Nat.reducePow,Int.reduceMod,Nat.reduceLeDiff,Int.reduceLE,Int.reduceNe,Int.reduceEq,Nat.reduceEqDiff,Nat.reduceLT,Nat.reduceBEq,tyF,zau,ty,Sput14,cloneRS,hc2,hzp,hml,d3,hs1,n2,x2,e1,Int.toNat_natCast]
           repeat (refine And.intro (by omega) ?_)
           refine ⟨zs.length - (i + 1),_,by omega,zab [0,1,2,3,4,5,6,7,113] rfl rfl rfl ?_ ?_,i + 1,rfl,by omega,rfl⟩
           · simp only [ssT,zae,zaf,setSlot,gOf,AV.ren,renL,Blk.ren,Ax.look,Ax.put,reduceCtorEq,↓reduceIte,Nat.reduceEqDiff,Nat.reduceLT,Nat.reduceAdd,List.length_append,List.length_cons,List.length_nil,Option.some.injEq,hyi]
           · simp only [ssT,zae,zaf,setSlot,gOf,AV.ren,renL,Blk.ren,Ax.look,Ax.put,reduceCtorEq,↓reduceIte,Nat.reduceEqDiff,Nat.reduceLT,Nat.reduceAdd,List.length_append,List.length_cons,List.length_nil,Option.some.injEq,hyi,ren_bvp,bfr_snoc]
             rw [← bfr_snoc,ren_bfr,bfr_snoc]; rfl
         · have d3 : decide ((i : Int) < zs.length) = false := decide_eq_false (by omega)
           have hii : Y.take i = Y := List.take_of_length_le (by omega)
           rw [hii] at hml ⊢
           simp only [go_sem,zaa,Nat.reduceAdd,Nat.reduceSub,Nat.reduceMul,Int.reduceToNat,reduceCtorEq,↓reduceIte,Int.reducePow,Nat.reducePow,Int.reduceMod,Nat.reduceLeDiff,Int.reduceLE,Int.reduceNe,Int.reduceEq,Nat.reduceEqDiff,Nat.reduceLT,Nat.reduceBEq,tyF,zau,ty,Sput14,hzp,d3,fillS]
           have hdle : decide (0 + i ≤ (bfr Y).length) = true := decide_eq_true (by omega)
           have htk : (bfr Y).take i = bfr Y := List.take_of_length_le (by rw [len_bfr]; omega)
           refine ⟨_,zfo 8 6 7 (bfr Y) rfl (closed_bfr Y) (by simp [slot,AV.ids]),?_⟩
           simp only [fgL,fgH,AV.fg,Blk.fg,Nat.reduceBEq,cond_true,cond_false,hdle,Bool.and_true,beq_self_eq_true,Bool.true_and,List.drop_zero,htk]
           simp only [go_sem,zaa,Nat.reduceAdd,Nat.reduceSub,Nat.reduceMul,Int.reduceToNat,reduceCtorEq,↓reduceIte,Int.reducePow,Nat.reducePow,Int.reduceMod,Nat.reduceLeDiff,Int.reduceLE,Int.reduceNe,Int.reduceEq,Nat.reduceEqDiff,Nat.reduceLT,Nat.reduceBEq,tyF,zau,ty,hv,hA,fillS]
   · have d1 : decide (E = 0) = false := decide_eq_false g1
     have hv : zds B l ⟨b,c,p,e,s,rs⟩ = E := by unfold zds; rw [hbE,if_neg g1]
     have hA : zec B l ⟨b,c,p,e,s,rs⟩ = .agg [.w (.int .i64 0),.sg 6 [] true] := by unfold zec; rw [hv,if_neg g1]
     simp only [go_sem,zaa,Nat.reduceAdd,Nat.reduceSub,Nat.reduceMul,Int.reduceToNat,reduceCtorEq,↓reduceIte,Int.reducePow,Nat.reducePow,Int.reduceMod,Nat.reduceLeDiff,Int.reduceLE,Int.reduceNe,Int.reduceEq,Nat.reduceEqDiff,Nat.reduceLT,Nat.reduceBEq,tyF,zau,ty,Sput14,bchkS4,zer,hlp,n0,n1,x1,r1,mu,hbs,hE,hN,d1,Bool.not_false,fillS]
     refine ⟨_,Weak.refl _,?_⟩
     simp only [go_sem,zaa,Nat.reduceAdd,Nat.reduceSub,Nat.reduceMul,Int.reduceToNat,reduceCtorEq,↓reduceIte,Int.reducePow,Nat.reducePow,Int.reduceMod,Nat.reduceLeDiff,Int.reduceLE,Int.reduceNe,Int.reduceEq,Nat.reduceEqDiff,Nat.reduceLT,Nat.reduceBEq,tyF,zau,ty,hv,hA,fillS]
 · exact hp.elim
end
end Go.Proofs.Ytlcijldkdpmknaa
namespace Go.Proofs.Ytlcijldkdpmknaa
open Ax
theorem rchk_zero {d t : Int} {k : Bool} {key : List UInt8} {dd : Bool} {val : List UInt8} (h : rchk d t k key dd val = 0) :
   (0 ≤ d ∧ d ≤ 31) ∧ (0 ≤ t ∧ t ≤ 1099511627776) ∧ key.length ≤ 64 ∧ val.length ≤ 512 ∧ (k = false → key = [] ∧ dd = false) ∧ (dd = true → val = []) := by
 rcases zel d t k key dd val with ⟨e,_⟩ | ⟨e,_⟩ | ⟨e,_⟩ | ⟨_,h1,h2,h3⟩
 · omega
 · omega
 · omega
 · unfold rA at h1
   unfold rB at h2
   unfold rC at h3
   refine ⟨by omega,by omega,by omega,by omega,fun hk => ?_,fun hd => ?_⟩
   · refine ⟨?_,?_⟩
     · apply Classical.byContradiction; intro hne; exact h3 (.inl ⟨hk,.inl hne⟩)
     · cases dd with
       | false => rfl
       | true => exact (h3 (.inl ⟨hk,.inr rfl⟩)).elim
   · apply Classical.byContradiction; intro hne; exact h3 (.inr ⟨hd,hne⟩)
end Go.Proofs.Ytlcijldkdpmknaa
namespace Go.Proofs.Ytlcijldkdpmknaa
open Ax
theorem rb_eq {r : Rec} (h : rk r = 0) : rb r = recL r.d r.t r.k r.key r.dd r.val := if_pos h
theorem layE_zero {c : Int} : ∀ {a : Int} {rs : List Rec},layE c a rs = 0 → (∀ r ∈ rs,rk r = 0) ∧ (∀ r ∈ rs,a < r.d ∧ r.d < c) ∧ rs.Pairwise (fun x y => x.d < y.d)
 | a,[],_ => ⟨by simp,by simp,List.Pairwise.nil⟩
 | a,r :: rs,h => by
   rw [layE_cons] at h
   by_cases h1 : rk r = 0
   · rw [if_pos h1] at h
     by_cases h2 : r.d ≤ a ∨ c ≤ r.d
     · rw [if_pos h2] at h; omega
     · rw [if_neg h2] at h
       obtain ⟨i1,i2,i3⟩ := layE_zero h
       refine ⟨?_,?_,List.pairwise_cons.2 ⟨fun q hq => (i2 q hq).1,i3⟩⟩
       · intro q hq
         rcases List.mem_cons.1 hq with rfl | hq
         · exact h1
         · exact i1 q hq
       · intro q hq
         rcases List.mem_cons.1 hq with rfl | hq
         · omega
         · have := i2 q hq; omega
   · rw [if_neg h1] at h; exact absurd h h1
theorem bE_zero {x : Bat} (h : bE x = 0) : bfld x.b x.c x.p x.e x.s x.rs.length = 0 ∧ layE x.c (-1) x.rs = 0 ∧ (batL x.b x.c x.p x.e x.s x.rs).length ≤ 8192 := by
 unfold bE batE at h
 split at h
 · rename_i h1
   split at h
   · rename_i h2
     split at h
     · omega
     · exact ⟨h1,h2,by omega⟩
   · rename_i h2; exact absurd h h2
 · rename_i h1; exact absurd h h1
end Go.Proofs.Ytlcijldkdpmknaa
namespace Go.Proofs.Ytlcijldkdpmknaa
open Ax
def nwI (l : List Bat) (a : Int) : Int := l.foldl (fun a x => max a (newL x.rs)) a
def nwG : List Bat → Int
 | [] => -1
 | x :: r => nwI (x :: r) (newL x.rs)
def fneedJ (n : Int) : Int := needI (max n 0 + 12)
def ndB (x : Bat) : Int := if bE x = 0 then fneedJ (bB x).length else 0
def ndI (l : List Bat) (a : Int) : Int := l.foldl (fun a x => a + ndB x) a
def btR (t b : Int) (s : Int × Bool) (r : Rec) : Int × Bool := if t ≤ r.t ∧ (s.2 = false ∨ offI b r.d < s.1) then (offI b r.d,true) else s
def btB (t : Int) (s : Int × Bool) (x : Bat) : Int × Bool := x.rs.foldl (btR t x.b) s
def btG (t : Int) (l : List Bat) : Int × Bool := l.foldl (btB t) (0,false)
def zfq : zam
 | [.w (.int .i64 n)],[] => ⟨0 ≤ n ∧ n ≤ 900000,.w (.int .i64 (fneedJ n)),[]⟩
 | _,_ => zay
def sndS : zam
 | [.agg [.w (.int .i64 b),.w (.int .i64 c),.w (.int .i64 p),.w (.int .i64 e),.w (.int .i64 s),.sg 6 ys g]],[] => ⟨ys.length ≤ 9223372036854775807 ∧ ∃ rs : List Rec,ys = rs.map rv,.w (.int .i64 (ndB ⟨b,c,p,e,s,ys.map rrec⟩)),[]⟩
 | _,_ => zay
def snewS : zam
 | [.agg [.w (.int .i64 B),.sg 6 xs f]],[] => ⟨xs.length ≤ 9223372036854775806 ∧ isBs xs,.w (.int .i64 (nwG (xs.map ubat))),[]⟩
 | _,_ => zay
def sbtS : zam
 | [.agg [.w (.int .i64 B),.sg 6 xs f],.w (.int .i64 t)],[] => ⟨xs.length ≤ 9223372036854775806 ∧ isBs xs,.tup [.w (.int .i64 (btG t (xs.map ubat)).1),.w (.bool (btG t (xs.map ubat)).2)],[]⟩
 | _,_ => zay
def Sfneed14 (f : FuncId) : Option zam :=
 match f with
 | 49 => some needS
 | _ => none
theorem Sfneed14_ok : Fns Try.prog Sfneed14 := by
 intro f s h
 unfold Sfneed14 at h
 split at h
 · injection h with h; subst h; exact ⟨⟨_,Try.func49,by kernel_rfl,by kernel_rfl⟩,need_sound⟩
 · cases h
section
set_option maxRecDepth 100000
set_option maxHeartbeats 2000000 in
theorem fneedJ_sound : zaq Try.prog 31 zfq := by
 refine zak (S := Sfneed14) (T := ty) zat ty_ok Sfneed14_ok Try.func31 (c := Try.f31.body.getD .skip) (by kernel_rfl) (by kernel_rfl) (fun xs pins hp _ => ?_)
 unfold zfq at hp ⊢
 split at hp
 · rename_i n _
   obtain ⟨h0,hn⟩ := hp
   refine ⟨by simp,?_⟩
   unfold Try.f31
   obtain ⟨M,hM⟩ : ∃ M,max n 0 = M := ⟨_,rfl⟩
   have em : (if (0 : Int) > n then (0 : Int) else n) = M := by split <;> omega
   have em2 : (if (1099511627776 : Int) < M then (1099511627776 : Int) else M) = M := by split <;> omega
   have e1 : (M + 12 + 9223372036854775808) % 18446744073709551616 - 9223372036854775808 = M + 12 := by omega
   simp only [go_sem,zaa,Nat.reduceAdd,Nat.reduceSub,Nat.reduceMul,Int.reduceToNat,reduceCtorEq,↓reduceIte,Int.reducePow,Nat.reducePow,Int.reduceMod,Nat.reduceLeDiff,Int.reduceLE,Int.reduceNe,Int.reduceEq,Nat.reduceEqDiff,Nat.reduceLT,Nat.reduceBEq,ty,Sfneed14,needS,em,em2,e1,fneedJ,hM]
   omega
 · exact hp.elim
def Snd14 (f : FuncId) : Option zam :=
 match f with
 | 30 => some blayS4
 | 31 => some zfq
 | _ => none
theorem Snd14_ok : Fns Try.prog Snd14 := by
 intro f s h
 unfold Snd14 at h
 split at h
 · injection h with h; subst h; exact ⟨⟨_,Try.func30,by kernel_rfl,by kernel_rfl⟩,bput4_sound⟩
 · injection h with h; subst h; exact ⟨⟨_,Try.func31,by kernel_rfl,by kernel_rfl⟩,fneedJ_sound⟩
 · cases h
set_option maxHeartbeats 2000000 in
theorem snd_sound : zaq Try.prog 15 sndS := by
 refine zak (S := Snd14) (T := ty) zat ty_ok Snd14_ok Try.func15 (c := Try.f15.body.getD .skip) (by kernel_rfl) (by kernel_rfl) (fun xs pins hp _ => ?_)
 unfold sndS at hp ⊢
 split at hp
 · rename_i b c p e s ys g _
   obtain ⟨hL,rs,rfl⟩ := hp
   rw [List.length_map] at hL
   refine ⟨by simp,?_⟩
   have n1 : (rs.map rv).length ≤ 9223372036854775807 := by rw [List.length_map]; exact hL
   have x1 : ∃ k : List Rec,rs.map rv = k.map rv := ⟨rs,rfl⟩
   have r1 := zaj rs
   obtain ⟨E,hE⟩ : ∃ E,batE b c p e s rs = E := ⟨_,rfl⟩
   obtain ⟨L,hLL⟩ : ∃ L,batB b c p e s rs = L := ⟨_,rfl⟩
   have hbE : bE ⟨b,c,p,e,s,rs⟩ = E := hE
   have hbB : bB ⟨b,c,p,e,s,rs⟩ = L := hLL
   rw [r1]
   unfold Try.f15
   by_cases g1 : E = 0
   · have d1 : decide (E = 0) = true := decide_eq_true g1
     have hl8 : L.length ≤ 8192 := by
       have h1 := (bE_zero (x := ⟨b,c,p,e,s,rs⟩) (hbE.trans g1)).2.2
       have h2 : L = batL b c p e s rs := by rw [← hLL]; unfold batB; rw [if_pos (hE.trans g1)]
       rw [h2]; exact h1
     have hv : ndB ⟨b,c,p,e,s,rs⟩ = fneedJ L.length := by unfold ndB; rw [hbE,if_pos g1,hbB]
     simp only [go_sem,zaa,Nat.reduceAdd,Nat.reduceSub,Nat.reduceMul,Int.reduceToNat,reduceCtorEq,↓reduceIte,Int.reducePow,Nat.reducePow,Int.reduceMod,Nat.reduceLeDiff,Int.reduceLE,Int.reduceNe,Int.reduceEq,Nat.reduceEqDiff,Nat.reduceLT,Nat.reduceBEq,ty,Snd14,blayS4,zfq,n1,x1,r1,hE,hLL,d1,hv,Bool.not_true]
     omega
   · have d1 : decide (E = 0) = false := decide_eq_false g1
     have hv : ndB ⟨b,c,p,e,s,rs⟩ = 0 := by unfold ndB; rw [hbE,if_neg g1]
     simp only [go_sem,zaa,Nat.reduceAdd,Nat.reduceSub,Nat.reduceMul,Int.reduceToNat,reduceCtorEq,↓reduceIte,Int.reducePow,Nat.reducePow,Int.reduceMod,Nat.reduceLeDiff,Int.reduceLE,Int.reduceNe,Int.reduceEq,Nat.reduceEqDiff,Nat.reduceLT,Nat.reduceBEq,ty,Snd14,blayS4,zfq,n1,x1,r1,hE,hLL,d1,hv,Bool.not_false]
 · exact hp.elim
def Snew14 (f : FuncId) : Option zam :=
 match f with
 | 28 => some bnewS
 | _ => none
theorem Snew14_ok : Fns Try.prog Snew14 := by
 intro f s h
 unfold Snew14 at h
 split at h
 · injection h with h; subst h; exact ⟨⟨_,Try.func28,by kernel_rfl,by kernel_rfl⟩,bnew_sound⟩
 · cases h
set_option maxHeartbeats 4000000 in
theorem snew_sound : zaq Try.prog 11 snewS := by
 refine zak (S := Snew14) (T := ty) zat ty_ok Snew14_ok Try.func11 (c := Try.f11.body.getD .skip) (by kernel_rfl) (by kernel_rfl) (fun xs pins hp _ => ?_)
 unfold snewS at hp ⊢
 split at hp
 · rename_i B xs f _
   obtain ⟨hL,es,rfl,he⟩ := hp
   rw [List.length_map] at hL
   refine ⟨by simp,?_⟩
   have hlp : (es.map bvp).length = es.length := by simp
   rw [zaz]
   unfold Try.f11
   by_cases h0 : es.length = 0
   · have d0 : decide ((es.length : Int) = 0) = true := decide_eq_true (by omega)
     have hv : nwG (es.map Prod.fst) = -1 := by rw [List.eq_nil_of_length_eq_zero h0]; rfl
     simp only [go_sem,zaa,Nat.reduceAdd,Nat.reduceSub,Nat.reduceMul,Int.reduceToNat,reduceCtorEq,↓reduceIte,Int.reducePow,Nat.reducePow,Int.reduceMod,Nat.reduceLeDiff,Int.reduceLE,Int.reduceNe,Int.reduceEq,Nat.reduceEqDiff,Nat.reduceLT,Nat.reduceBEq,ty,Snew14,hlp,d0,hv]
   · have d0 : decide ((es.length : Int) = 0) = false := decide_eq_false (by omega)
     have hs0 := zbb es 0 (by omega)
     have m0 := he es[0] (List.getElem_mem (by omega))
     have hv : nwG (es.map Prod.fst) = nwI (es.map Prod.fst) (newL es[0].1.rs) := by
       cases es with
       | nil => simp at h0
       | cons x r => rfl
     obtain ⟨P,hP⟩ : ∃ P,es[0]'(by omega) = P := ⟨_,rfl⟩
     rw [hP] at hs0 m0 hv
     obtain ⟨⟨b,c,p,e,s,rs⟩,f'⟩ := P
     have hs0 : slot (es.map bvp) 0 = .agg [.w (.int .i64 b),.w (.int .i64 c),.w (.int .i64 p),.w (.int .i64 e),.w (.int .i64 s),.sg 6 (rs.map rv) f'] := hs0
     simp only at m0 hv
     have n1 : (rs.map rv).length ≤ 9223372036854775807 := by rw [List.length_map]; exact m0
     have x1 : ∃ k : List Rec,rs.map rv = k.map rv := ⟨rs,rfl⟩
     have r1 := zaj rs
     have hpos : 0 < es.length := by omega
     obtain ⟨W0,hW0⟩ : ∃ W,newL rs = W := ⟨_,rfl⟩
     rw [hW0] at hv
     simp only [go_sem,zaa,Nat.reduceAdd,Nat.reduceSub,Nat.reduceMul,Int.reduceToNat,reduceCtorEq,↓reduceIte,Int.reducePow,Nat.reducePow,Int.reduceMod,Nat.reduceLeDiff,Int.reduceLE,Int.reduceNe,Int.reduceEq,Nat.reduceEqDiff,Nat.reduceLT,Nat.reduceBEq,ty,Snew14,bnewS,hlp,d0,hs0,n1,x1,r1,hpos,hW0,Int.toNat_zero]
     refine zas ⟨fun m σ => ∃ (i : Nat) (a : Int),m = es.length - i ∧ i ≤ es.length ∧ nwG (es.map Prod.fst) = nwI ((es.drop i).map Prod.fst) a ∧
         σ = ⟨[.agg [.w (.int .i64 B),.sg 6 (es.map bvp) f],.rf 4 2 0 0,.junk,.w (.int .i64 a),.junk,.junk,.junk,.junk,.junk,.junk,.junk,.junk,.junk,.junk,.junk,.junk,.sg 6 (es.map bvp) f,.w (.int .i64 es.length),.w (.int .i64 i),.junk,.junk,.junk,.junk,.junk,.junk,.junk,.junk,.junk],[(4,.g 2 [.agg [.w (.int .i64 B),.sg 6 (es.map bvp) f]])],5⟩,?_,?_⟩
     · refine ⟨_,_,zab [0,1,2,3,4] rfl rfl rfl ?_ ?_,0,W0,rfl,by omega,by rw [List.drop_zero]; exact hv,rfl⟩
       · simp only [ssT,zae,zaf,setSlot,gOf,AV.ren,renL,Blk.ren,Ax.look,Ax.put,reduceCtorEq,↓reduceIte,Nat.reduceEqDiff,Nat.reduceLT,Nat.reduceAdd,List.length_append,List.length_cons,List.length_nil,Option.some.injEq]; try simp
       · simp only [ssT,zae,zaf,setSlot,gOf,AV.ren,renL,Blk.ren,Ax.look,Ax.put,reduceCtorEq,↓reduceIte,Nat.reduceEqDiff,Nat.reduceLT,Nat.reduceAdd,List.length_append,List.length_cons,List.length_nil,Option.some.injEq]
     · rintro m σ ⟨i,a,rfl,hi,hinv,rfl⟩
       have e1 : ((i : Int) + 1 + 9223372036854775808) % 18446744073709551616 - 9223372036854775808 = ((i + 1 : Nat) : Int) := by omega
       clear hs0 m0 n1 x1 r1 hW0 hP hv
       by_cases hil : i < es.length
       · have d3 : decide ((i : Int) < es.length) = true := decide_eq_true (by omega)
         have hs1 := zbb es i hil
         have m1 := he es[i] (List.getElem_mem hil)
         have hdr : es.drop i = es[i] :: es.drop (i + 1) := List.drop_eq_getElem_cons hil
         obtain ⟨P,hP⟩ : ∃ P,es[i] = P := ⟨_,rfl⟩
         rw [hP] at hs1 m1 hdr
         rw [hdr] at hinv
         obtain ⟨⟨b,c,p,e,s,rs⟩,f'⟩ := P
         have hs1 : slot (es.map bvp) i = .agg [.w (.int .i64 b),.w (.int .i64 c),.w (.int .i64 p),.w (.int .i64 e),.w (.int .i64 s),.sg 6 (rs.map rv) f'] := hs1
         simp only at m1
         have n1 : (rs.map rv).length ≤ 9223372036854775807 := by rw [List.length_map]; exact m1
         have x1 : ∃ k : List Rec,rs.map rv = k.map rv := ⟨rs,rfl⟩
         have r1 := zaj rs
         obtain ⟨W,hW⟩ : ∃ W,newL rs = W := ⟨_,rfl⟩
         have hinv : nwG (es.map Prod.fst) = nwI ((es.drop (i + 1)).map Prod.fst) (max a (newL rs)) := hinv
         rw [hW] at hinv
         have em1 : (if a > W then a else W) = max a W := by split <;> omega
         have em2 : (if W > a then W else a) = max a W := by split <;> omega
         simp only [go_sem,zaa,Nat.reduceAdd,Nat.reduceSub,Nat.reduceMul,Int.reduceToNat,reduceCtorEq,↓reduceIte,Int.reducePow,Nat.reducePow,Int.reduceMod,Nat.reduceLeDiff,Int.reduceLE,Int.reduceNe,Int.reduceEq,Nat.reduceEqDiff,Nat.reduceLT,Nat.reduceBEq,ty,Snew14,bnewS,hlp,d3,hs1,n1,x1,r1,hW,e1,em1,em2,Int.toNat_natCast]
         repeat (refine And.intro (by omega) ?_)
         refine ⟨es.length - (i + 1),_,by omega,zab [0,1,2,3,4] rfl rfl rfl ?_ ?_,i + 1,max a W,rfl,by omega,hinv,rfl⟩
         · simp only [ssT,zae,zaf,setSlot,gOf,AV.ren,renL,Blk.ren,Ax.look,Ax.put,reduceCtorEq,↓reduceIte,Nat.reduceEqDiff,Nat.reduceLT,Nat.reduceAdd,List.length_append,List.length_cons,List.length_nil,Option.some.injEq]
         · simp only [ssT,zae,zaf,setSlot,gOf,AV.ren,renL,Blk.ren,Ax.look,Ax.put,reduceCtorEq,↓reduceIte,Nat.reduceEqDiff,Nat.reduceLT,Nat.reduceAdd,List.length_append,List.length_cons,List.length_nil,Option.some.injEq]
       · have d3 : decide ((i : Int) < es.length) = false := decide_eq_false (by omega)
         have hdr : es.drop i = [] := List.drop_eq_nil_of_le (by omega)
         rw [hdr] at hinv
         have hv2 : nwG (es.map Prod.fst) = a := hinv
         simp only [go_sem,zaa,Nat.reduceAdd,Nat.reduceSub,Nat.reduceMul,Int.reduceToNat,reduceCtorEq,↓reduceIte,Int.reducePow,Nat.reducePow,Int.reduceMod,Nat.reduceLeDiff,Int.reduceLE,Int.reduceNe,Int.reduceEq,Nat.reduceEqDiff,Nat.reduceLT,Nat.reduceBEq,ty,Snew14,hlp,d3,hv2]
 · exact hp.elim
set_option maxHeartbeats 4000000 in
theorem sbt_sound : zaq Try.prog 7 sbtS := by
 refine zak (S := noS) (T := ty) zat ty_ok zbo Try.func7 (c := Try.f7.body.getD .skip) (by kernel_rfl) (by kernel_rfl) (fun xs pins hp _ => ?_)
 unfold sbtS at hp ⊢
 split at hp
 · rename_i B xs f t _
   obtain ⟨hL,es,rfl,he⟩ := hp
   rw [List.length_map] at hL
   refine ⟨by simp,?_⟩
   have hlp : (es.map bvp).length = es.length := by simp
   rw [zaz]
   unfold Try.f7
   simp only [go_sem,zaa,Nat.reduceAdd,Nat.reduceSub,Nat.reduceMul,Int.reduceToNat,reduceCtorEq,↓reduceIte,Int.reducePow,Nat.reducePow,Int.reduceMod,Nat.reduceLeDiff,Int.reduceLE,Int.reduceNe,Int.reduceEq,Nat.reduceEqDiff,Nat.reduceLT,Nat.reduceBEq,ty,noS,hlp]
   refine zas ⟨fun m σ => ∃ (i : Nat) (a : Int) (h : Bool),m = es.length - i ∧ i ≤ es.length ∧ btG t (es.map Prod.fst) = ((es.drop i).map Prod.fst).foldl (btB t) (a,h) ∧
       σ = ⟨[.agg [.w (.int .i64 B),.sg 6 (es.map bvp) f],.w (.int .i64 t),.rf 4 2 0 0,.junk,.junk,.junk,.w (.int .i64 a),.w (.bool h),.junk,.junk,.junk,.junk,.junk,.junk,.sg 6 (es.map bvp) f,.w (.int .i64 es.length),.w (.int .i64 i),.junk,.junk,.junk,.junk,.junk,.junk,.junk,.junk,.junk,.junk,.junk,.junk,.junk,.junk,.junk,.junk,.junk,.junk,.junk,.junk,.junk,.junk,.junk,.junk,.junk,.junk,.junk,.junk,.junk,.junk,.junk,.junk,.junk],[(4,.g 2 [.agg [.w (.int .i64 B),.sg 6 (es.map bvp) f]])],5⟩,?_,?_⟩
   · refine ⟨_,_,zab [0,1,2,3,4] rfl rfl rfl ?_ ?_,0,0,false,rfl,by omega,by rw [List.drop_zero]; rfl,rfl⟩
     · simp only [ssT,zae,zaf,setSlot,gOf,AV.ren,renL,Blk.ren,Ax.look,Ax.put,reduceCtorEq,↓reduceIte,Nat.reduceEqDiff,Nat.reduceLT,Nat.reduceAdd,List.length_append,List.length_cons,List.length_nil,Option.some.injEq]; try simp
     · simp only [ssT,zae,zaf,setSlot,gOf,AV.ren,renL,Blk.ren,Ax.look,Ax.put,reduceCtorEq,↓reduceIte,Nat.reduceEqDiff,Nat.reduceLT,Nat.reduceAdd,List.length_append,List.length_cons,List.length_nil,Option.some.injEq]
   · rintro m σ ⟨i,a,h,rfl,hi,hinv,rfl⟩
     have e1 : ((i : Int) + 1 + 9223372036854775808) % 18446744073709551616 - 9223372036854775808 = ((i + 1 : Nat) : Int) := by omega
     by_cases hil : i < es.length
     · have d3 : decide ((i : Int) < es.length) = true := decide_eq_true (by omega)
       have hs1 := zbb es i hil
       have m1 := he es[i] (List.getElem_mem hil)
       have hdr : es.drop i = es[i] :: es.drop (i + 1) := List.drop_eq_getElem_cons hil
       obtain ⟨P,hP⟩ : ∃ P,es[i] = P := ⟨_,rfl⟩
       rw [hP] at hs1 m1 hdr
       rw [hdr] at hinv
       obtain ⟨⟨b,c,p,e,s,rs⟩,f'⟩ := P
       have hs1 : slot (es.map bvp) i = .agg [.w (.int .i64 b),.w (.int .i64 c),.w (.int .i64 p),.w (.int .i64 e),.w (.int .i64 s),.sg 6 (rs.map rv) f'] := hs1
       simp only at m1
       have hlr : (rs.map rv).length = rs.length := by simp
       have hinv : btG t (es.map Prod.fst) = ((es.drop (i + 1)).map Prod.fst).foldl (btB t) (rs.foldl (btR t b) (a,h)) := hinv
       simp only [go_sem,zaa,Nat.reduceAdd,Nat.reduceSub,Nat.reduceMul,Int.reduceToNat,reduceCtorEq,↓reduceIte,Int.reducePow,Nat.reducePow,Int.reduceMod,Nat.reduceLeDiff,Int.reduceLE,Int.reduceNe,Int.reduceEq,Nat.reduceEqDiff,Nat.reduceLT,Nat.reduceBEq,ty,noS,hlp,d3,hs1,hlr,Int.toNat_natCast]
       repeat (refine And.intro (by omega) ?_)
       refine zas ⟨fun m σ => ∃ (k : Nat) (a : Int) (h : Bool),m = rs.length - k ∧ k ≤ rs.length ∧ btG t (es.map Prod.fst) = ((es.drop (i + 1)).map Prod.fst).foldl (btB t) ((rs.drop k).foldl (btR t b) (a,h)) ∧
           σ = ⟨[.agg [.w (.int .i64 B),.sg 6 (es.map bvp) f],.w (.int .i64 t),.rf 4 2 0 0,.junk,.junk,.junk,.w (.int .i64 a),.w (.bool h),.junk,.rf 5 6 0 0,.junk,.junk,.junk,.junk,.sg 6 (es.map bvp) f,.w (.int .i64 es.length),.w (.int .i64 i),.junk,.junk,.junk,.junk,.sg 6 (rs.map rv) f',.w (.int .i64 rs.length),.w (.int .i64 k),.junk,.junk,.junk,.junk,.junk,.junk,.junk,.junk,.junk,.junk,.junk,.junk,.junk,.junk,.junk,.junk,.junk,.junk,.junk,.junk,.junk,.junk,.junk,.junk,.junk,.junk],
             [(4,.g 2 [.agg [.w (.int .i64 B),.sg 6 (es.map bvp) f]]),(5,.g 6 [.agg [.w (.int .i64 b),.w (.int .i64 c),.w (.int .i64 p),.w (.int .i64 e),.w (.int .i64 s),.sg 6 (rs.map rv) f']])],6⟩,?_,?_⟩
       · refine ⟨_,_,zab [0,1,2,3,4,29] rfl rfl rfl ?_ ?_,0,a,h,rfl,by omega,by rw [List.drop_zero]; exact hinv,rfl⟩
         · simp only [ssT,zae,zaf,setSlot,gOf,AV.ren,renL,Blk.ren,Ax.look,Ax.put,reduceCtorEq,↓reduceIte,Nat.reduceEqDiff,Nat.reduceLT,Nat.reduceAdd,List.length_append,List.length_cons,List.length_nil,Option.some.injEq]; try simp
         · simp only [ssT,zae,zaf,setSlot,gOf,AV.ren,renL,Blk.ren,Ax.look,Ax.put,reduceCtorEq,↓reduceIte,Nat.reduceEqDiff,Nat.reduceLT,Nat.reduceAdd,List.length_append,List.length_cons,List.length_nil,Option.some.injEq]
       · rintro m σ ⟨k,a,h,rfl,hk,hinv,rfl⟩
         by_cases hkl : k < rs.length
         · have e2 : ((k : Int) + 1 + 9223372036854775808) % 18446744073709551616 - 9223372036854775808 = ((k + 1 : Nat) : Int) := by omega
           have d4 : decide ((k : Int) < rs.length) = true := decide_eq_true (by omega)
           have hs2 := zbe rv rs k hkl
           have hdk : rs.drop k = rs[k] :: rs.drop (k + 1) := List.drop_eq_getElem_cons hkl
           obtain ⟨R,hR⟩ : ∃ R,rs[k] = R := ⟨_,rfl⟩
           rw [hR] at hs2 hdk
           rw [hdk,List.foldl_cons] at hinv
           simp only [rv] at hs2
           have hof : (b + R.d + 9223372036854775808) % 18446744073709551616 - 9223372036854775808 = offI b R.d := rfl
           obtain ⟨O,hO⟩ : ∃ O,offI b R.d = O := ⟨_,rfl⟩
           rw [hO] at hof
           by_cases c1 : t ≤ R.t
           · have d5 : decide (t ≤ R.t) = true := decide_eq_true c1
             cases h with
             | false =>
               have hst : btR t b (a,false) R = (O,true) := by unfold btR; rw [if_pos ⟨c1,.inl rfl⟩,hO]
               rw [hst] at hinv
               simp only [go_sem,zaa,Nat.reduceAdd,Nat.reduceSub,Nat.reduceMul,Int.reduceToNat,reduceCtorEq,↓reduceIte,Int.reducePow,Nat.reducePow,Int.reduceMod,Nat.reduceLeDiff,Int.reduceLE,Int.reduceNe,Int.reduceEq,Nat.reduceEqDiff,Nat.reduceLT,Nat.reduceBEq,ty,noS,hlp,hlr,d4,d5,hs2,hof,e2,Int.toNat_natCast,Bool.not_false]
               repeat (refine And.intro (by omega) ?_)
               refine ⟨rs.length - (k + 1),_,by omega,zab [0,1,2,3,4,5] rfl rfl rfl ?_ ?_,k + 1,O,true,rfl,by omega,hinv,rfl⟩
               · simp only [ssT,zae,zaf,setSlot,gOf,AV.ren,renL,Blk.ren,Ax.look,Ax.put,reduceCtorEq,↓reduceIte,Nat.reduceEqDiff,Nat.reduceLT,Nat.reduceAdd,List.length_append,List.length_cons,List.length_nil,Option.some.injEq]
               · simp only [ssT,zae,zaf,setSlot,gOf,AV.ren,renL,Blk.ren,Ax.look,Ax.put,reduceCtorEq,↓reduceIte,Nat.reduceEqDiff,Nat.reduceLT,Nat.reduceAdd,List.length_append,List.length_cons,List.length_nil,Option.some.injEq]
             | true =>
               by_cases c2 : O < a
               · have d6 : decide (O < a) = true := decide_eq_true c2
                 have hst : btR t b (a,true) R = (O,true) := by unfold btR; rw [hO,if_pos ⟨c1,.inr c2⟩]
                 rw [hst] at hinv
                 simp only [go_sem,zaa,Nat.reduceAdd,Nat.reduceSub,Nat.reduceMul,Int.reduceToNat,reduceCtorEq,↓reduceIte,Int.reducePow,Nat.reducePow,Int.reduceMod,Nat.reduceLeDiff,Int.reduceLE,Int.reduceNe,Int.reduceEq,Nat.reduceEqDiff,Nat.reduceLT,Nat.reduceBEq,ty,noS,hlp,hlr,d4,d5,d6,hs2,hof,e2,Int.toNat_natCast,Bool.not_true]
                 repeat (refine And.intro (by omega) ?_)
                 refine ⟨rs.length - (k + 1),_,by omega,zab [0,1,2,3,4,5] rfl rfl rfl ?_ ?_,k + 1,O,true,rfl,by omega,hinv,rfl⟩
                 · simp only [ssT,zae,zaf,setSlot,gOf,AV.ren,renL,Blk.ren,Ax.look,Ax.put,reduceCtorEq,↓reduceIte,Nat.reduceEqDiff,Nat.reduceLT,Nat.reduceAdd,List.length_append,List.length_cons,List.length_nil,Option.some.injEq]
                 · simp only [ssT,zae,zaf,setSlot,gOf,AV.ren,renL,Blk.ren,Ax.look,Ax.put,reduceCtorEq,↓reduceIte,Nat.reduceEqDiff,Nat.reduceLT,Nat.reduceAdd,List.length_append,List.length_cons,List.length_nil,Option.some.injEq]
               · have d6 : decide (O < a) = false := decide_eq_false c2
                 have hst : btR t b (a,true) R = (a,true) := by unfold btR; rw [hO,if_neg (by rintro ⟨_,h | h⟩; cases h; exact c2 h)]
                 rw [hst] at hinv
                 simp only [go_sem,zaa,Nat.reduceAdd,Nat.reduceSub,Nat.reduceMul,Int.reduceToNat,reduceCtorEq,↓reduceIte,Int.reducePow,Nat.reducePow,Int.reduceMod,Nat.reduceLeDiff,Int.reduceLE,Int.reduceNe,Int.reduceEq,Nat.reduceEqDiff,Nat.reduceLT,Nat.reduceBEq,ty,noS,hlp,hlr,d4,d5,d6,hs2,hof,e2,Int.toNat_natCast,Bool.not_true]
                 repeat (refine And.intro (by omega) ?_)
                 refine ⟨rs.length - (k + 1),_,by omega,zab [0,1,2,3,4,5] rfl rfl rfl ?_ ?_,k + 1,a,true,rfl,by omega,hinv,rfl⟩
                 · simp only [ssT,zae,zaf,setSlot,gOf,AV.ren,renL,Blk.ren,Ax.look,Ax.put,reduceCtorEq,↓reduceIte,Nat.reduceEqDiff,Nat.reduceLT,Nat.reduceAdd,List.length_append,List.length_cons,List.length_nil,Option.some.injEq]
                 · simp only [ssT,zae,zaf,setSlot,gOf,AV.ren,renL,Blk.ren,Ax.look,Ax.put,reduceCtorEq,↓reduceIte,Nat.reduceEqDiff,Nat.reduceLT,Nat.reduceAdd,List.length_append,List.length_cons,List.length_nil,Option.some.injEq]
           · have d5 : decide (t ≤ R.t) = false := decide_eq_false c1
             have hst : btR t b (a,h) R = (a,h) := by unfold btR; rw [if_neg (by rintro ⟨h,_⟩; exact c1 h)]
             rw [hst] at hinv
             simp only [go_sem,zaa,Nat.reduceAdd,Nat.reduceSub,Nat.reduceMul,Int.reduceToNat,reduceCtorEq,↓reduceIte,Int.reducePow,Nat.reducePow,Int.reduceMod,Nat.reduceLeDiff,Int.reduceLE,Int.reduceNe,Int.reduceEq,Nat.reduceEqDiff,Nat.reduceLT,Nat.reduceBEq,ty,noS,hlp,hlr,d4,d5,hs2,hof,e2,Int.toNat_natCast]
             repeat (refine And.intro (by omega) ?_)
             refine ⟨rs.length - (k + 1),_,by omega,zab [0,1,2,3,4,5] rfl rfl rfl ?_ ?_,k + 1,a,h,rfl,by omega,hinv,rfl⟩
             · simp only [ssT,zae,zaf,setSlot,gOf,AV.ren,renL,Blk.ren,Ax.look,Ax.put,reduceCtorEq,↓reduceIte,Nat.reduceEqDiff,Nat.reduceLT,Nat.reduceAdd,List.length_append,List.length_cons,List.length_nil,Option.some.injEq]
             · simp only [ssT,zae,zaf,setSlot,gOf,AV.ren,renL,Blk.ren,Ax.look,Ax.put,reduceCtorEq,↓reduceIte,Nat.reduceEqDiff,Nat.reduceLT,Nat.reduceAdd,List.length_append,List.length_cons,List.length_nil,Option.some.injEq]
         · have d4 : decide ((k : Int) < rs.length) = false := decide_eq_false (by omega)
           have hdk : rs.drop k = [] := List.drop_eq_nil_of_le (by omega)
           rw [hdk,List.foldl_nil] at hinv
           simp only [go_sem,zaa,Nat.reduceAdd,Nat.reduceSub,Nat.reduceMul,Int.reduceToNat,reduceCtorEq,↓reduceIte,Int.reducePow,Nat.reducePow,Int.reduceMod,Nat.reduceLeDiff,Int.reduceLE,Int.reduceNe,Int.reduceEq,Nat.reduceEqDiff,Nat.reduceLT,Nat.reduceBEq,ty,noS,hlp,hlr,d4,e1]
           refine ⟨es.length - (i + 1),_,by omega,zab [0,1,2,3,4] rfl rfl rfl ?_ ?_,i + 1,a,h,rfl,by omega,hinv,rfl⟩
           · simp only [ssT,zae,zaf,setSlot,gOf,AV.ren,renL,Blk.ren,Ax.look,Ax.put,reduceCtorEq,↓reduceIte,Nat.reduceEqDiff,Nat.reduceLT,Nat.reduceAdd,List.length_append,List.length_cons,List.length_nil,Option.some.injEq]
           · simp only [ssT,zae,zaf,setSlot,gOf,AV.ren,renL,Blk.ren,Ax.look,Ax.put,reduceCtorEq,↓reduceIte,Nat.reduceEqDiff,Nat.reduceLT,Nat.reduceAdd,List.length_append,List.length_cons,List.length_nil,Option.some.injEq]
     · have d3 : decide ((i : Int) < es.length) = false := decide_eq_false (by omega)
       have hdr : es.drop i = [] := List.drop_eq_nil_of_le (by omega)
       rw [hdr] at hinv
       have hv2 : btG t (es.map Prod.fst) = (a,h) := hinv
       simp only [go_sem,zaa,Nat.reduceAdd,Nat.reduceSub,Nat.reduceMul,Int.reduceToNat,reduceCtorEq,↓reduceIte,Int.reducePow,Nat.reducePow,Int.reduceMod,Nat.reduceLeDiff,Int.reduceLE,Int.reduceNe,Int.reduceEq,Nat.reduceEqDiff,Nat.reduceLT,Nat.reduceBEq,ty,noS,hlp,d3,hv2]
 · exact hp.elim
def sbkS : zam
 | [.agg [.w (.int .i64 B),.sg 6 xs f]],[] => ⟨xs.length ≤ 1000000 ∧ isBs xs,.w (.int .i64 (ndI (xs.map ubat) 0)),[]⟩
 | _,_ => zay
def Sbk14 (f : FuncId) : Option zam :=
 match f with
 | 15 => some sndS
 | _ => none
theorem Sbk14_ok : Fns Try.prog Sbk14 := by
 intro f s h
 unfold Sbk14 at h
 split at h
 · injection h with h; subst h; exact ⟨⟨_,Try.func15,by kernel_rfl,by kernel_rfl⟩,snd_sound⟩
 · cases h
theorem ndB_range (x : Bat) : 0 ≤ ndB x ∧ ndB x ≤ 1000 := by
 unfold ndB
 split
 · rename_i h
   have h1 := (bE_zero h).2.2
   have h2 : bB x = batL x.b x.c x.p x.e x.s x.rs := by unfold bB batB; exact if_pos h
   rw [h2]
   unfold fneedJ needI
   omega
 · omega
set_option maxHeartbeats 4000000 in
theorem sbk_sound : zaq Try.prog 13 sbkS := by
 refine zak (S := Sbk14) (T := ty) zat ty_ok Sbk14_ok Try.func13 (c := Try.f13.body.getD .skip) (by kernel_rfl) (by kernel_rfl) (fun xs pins hp _ => ?_)
 unfold sbkS at hp ⊢
 split at hp
 · rename_i B xs f _
   obtain ⟨hL,es,rfl,he⟩ := hp
   rw [List.length_map] at hL
   refine ⟨by simp,?_⟩
   have hlp : (es.map bvp).length = es.length := by simp
   rw [zaz]
   unfold Try.f13
   simp only [go_sem,zaa,Nat.reduceAdd,Nat.reduceSub,Nat.reduceMul,Int.reduceToNat,reduceCtorEq,↓reduceIte,Int.reducePow,Nat.reducePow,Int.reduceMod,Nat.reduceLeDiff,Int.reduceLE,Int.reduceNe,Int.reduceEq,Nat.reduceEqDiff,Nat.reduceLT,Nat.reduceBEq,ty,Sbk14,hlp]
   refine zas ⟨fun m σ => ∃ (i : Nat) (a : Int),m = es.length - i ∧ i ≤ es.length ∧ (0 ≤ a ∧ a ≤ 1000 * i) ∧ ndI (es.map Prod.fst) 0 = ndI ((es.drop i).map Prod.fst) a ∧
       σ = ⟨[.agg [.w (.int .i64 B),.sg 6 (es.map bvp) f],.rf 4 2 0 0,.junk,.w (.int .i64 a),.junk,.junk,.junk,.sg 6 (es.map bvp) f,.w (.int .i64 es.length),.w (.int .i64 i),.junk,.junk,.junk,.junk,.junk,.junk,.junk,.junk,.junk],[(4,.g 2 [.agg [.w (.int .i64 B),.sg 6 (es.map bvp) f]])],5⟩,?_,?_⟩
   · refine ⟨_,_,zab [0,1,2,3,4] rfl rfl rfl ?_ ?_,0,0,rfl,by omega,by omega,by rw [List.drop_zero],rfl⟩
     · simp only [ssT,zae,zaf,setSlot,gOf,AV.ren,renL,Blk.ren,Ax.look,Ax.put,reduceCtorEq,↓reduceIte,Nat.reduceEqDiff,Nat.reduceLT,Nat.reduceAdd,List.length_append,List.length_cons,List.length_nil,Option.some.injEq]; try simp
     · simp only [ssT,zae,zaf,setSlot,gOf,AV.ren,renL,Blk.ren,Ax.look,Ax.put,reduceCtorEq,↓reduceIte,Nat.reduceEqDiff,Nat.reduceLT,Nat.reduceAdd,List.length_append,List.length_cons,List.length_nil,Option.some.injEq]
   · rintro m σ ⟨i,a,rfl,hi,⟨ha0,ha1⟩,hinv,rfl⟩
     have e1 : ((i : Int) + 1 + 9223372036854775808) % 18446744073709551616 - 9223372036854775808 = ((i + 1 : Nat) : Int) := by omega
     by_cases hil : i < es.length
     · have d3 : decide ((i : Int) < es.length) = true := decide_eq_true (by omega)
       have hs1 := zbb es i hil
       have m1 := he es[i] (List.getElem_mem hil)
       have hdr : es.drop i = es[i] :: es.drop (i + 1) := List.drop_eq_getElem_cons hil
       obtain ⟨P,hP⟩ : ∃ P,es[i] = P := ⟨_,rfl⟩
       rw [hP] at hs1 m1 hdr
       rw [hdr] at hinv
       obtain ⟨⟨b,c,p,e,s,rs⟩,f'⟩ := P
       have hs1 : slot (es.map bvp) i = .agg [.w (.int .i64 b),.w (.int .i64 c),.w (.int .i64 p),.w (.int .i64 e),.w (.int .i64 s),.sg 6 (rs.map rv) f'] := hs1
       simp only at m1
       have n1 : (rs.map rv).length ≤ 9223372036854775807 := by rw [List.length_map]; exact m1
       have x1 : ∃ k : List Rec,rs.map rv = k.map rv := ⟨rs,rfl⟩
       have r1 := zaj rs
       have hrg := ndB_range ⟨b,c,p,e,s,rs⟩
       have hinv : ndI (es.map Prod.fst) 0 = ndI ((es.drop (i + 1)).map Prod.fst) (a + ndB ⟨b,c,p,e,s,rs⟩) := hinv
       obtain ⟨W,hW⟩ : ∃ W,ndB ⟨b,c,p,e,s,rs⟩ = W := ⟨_,rfl⟩
       rw [hW] at hinv hrg
       have e2 : (a + W + 9223372036854775808) % 18446744073709551616 - 9223372036854775808 = a + W := by omega
       simp only [go_sem,zaa,Nat.reduceAdd,Nat.reduceSub,Nat.reduceMul,Int.reduceToNat,reduceCtorEq,↓reduceIte,Int.reducePow,Nat.reducePow,Int.reduceMod,Nat.reduceLeDiff,Int.reduceLE,Int.reduceNe,Int.reduceEq,Nat.reduceEqDiff,Nat.reduceLT,Nat.reduceBEq,ty,Sbk14,sndS,hlp,d3,hs1,n1,x1,r1,hW,e1,e2,Int.toNat_natCast]
       repeat (refine And.intro (by omega) ?_)
       refine ⟨es.length - (i + 1),_,by omega,zab [0,1,2,3,4] rfl rfl rfl ?_ ?_,i + 1,a + W,rfl,by omega,by omega,hinv,rfl⟩
       · simp only [ssT,zae,zaf,setSlot,gOf,AV.ren,renL,Blk.ren,Ax.look,Ax.put,reduceCtorEq,↓reduceIte,Nat.reduceEqDiff,Nat.reduceLT,Nat.reduceAdd,List.length_append,List.length_cons,List.length_nil,Option.some.injEq]
       · simp only [ssT,zae,zaf,setSlot,gOf,AV.ren,renL,Blk.ren,Ax.look,Ax.put,reduceCtorEq,↓reduceIte,Nat.reduceEqDiff,Nat.reduceLT,Nat.reduceAdd,List.length_append,List.length_cons,List.length_nil,Option.some.injEq]
     · have d3 : decide ((i : Int) < es.length) = false := decide_eq_false (by omega)
       have hdr : es.drop i = [] := List.drop_eq_nil_of_le (by omega)
       rw [hdr] at hinv
       have hv2 : ndI (es.map Prod.fst) 0 = a := hinv
       simp only [go_sem,zaa,Nat.reduceAdd,Nat.reduceSub,Nat.reduceMul,Int.reduceToNat,reduceCtorEq,↓reduceIte,Int.reducePow,Nat.reducePow,Int.reduceMod,Nat.reduceLeDiff,Int.reduceLE,Int.reduceNe,Int.reduceEq,Nat.reduceEqDiff,Nat.reduceLT,Nat.reduceBEq,ty,Sbk14,hlp,d3,hv2]
 · exact hp.elim
end
end Go.Proofs.Ytlcijldkdpmknaa
namespace Go.Proofs.Ytlcijldkdpmknaa
open Ax
structure Ent where
 o : Int
 t : Int
 a : Int
def ent (e : Ent) : AV := .agg [.w (.int .i64 e.o),.w (.int .i64 e.t),.w (.int .i64 e.a)]
def uent : AV → Ent
 | .agg [.w (.int _ o),.w (.int _ t),.w (.int _ a)] => ⟨o,t,a⟩
 | _ => ⟨0,0,0⟩
theorem zco (es : List Ent) : (es.map ent).map uent = es := by
 rw [List.map_map]; exact List.map_id _
theorem zbg : ∀ (G : List Ent),closedL (G.map ent) = true
 | [] => rfl
 | x :: r => by simp only [List.map_cons,closedL,ent,AV.closed,Bool.true_and]; exact zbg r
theorem ren_ent (g : Nat → Nat) : ∀ (G : List Ent),renL g (G.map ent) = G.map ent
 | [] => rfl
 | x :: r => by simp only [List.map_cons,renL,ren_ent g r]; rfl
theorem slot_ent : ∀ (es : List Ent) (i : Nat) (h : i < es.length),slot (es.map ent) i = ent es[i]
 | p :: ps,0,h => rfl
 | p :: ps,i + 1,h => by
   simp only [List.map_cons,slot,List.getElem_cons_succ]
   exact slot_ent ps i (by simpa using h)
def zdq (v c : Int) : Prop := v < 1 ∨ c.tmod v = 0
instance (v c : Int) : Decidable (zdq v c) := by unfold zdq; infer_instance
def inc (c : Int) : Int := (c + 1 + 9223372036854775808) % 18446744073709551616 - 9223372036854775808
def lastT (t : Int) (es : List Ent) : Int := match es.getLast? with
 | none => t
 | some l => max t l.t
def putO : zam
 | [.rf 0 3 0 0,.agg [.w (.int .i64 o),.w (.int .i64 t),.w (.int .i64 a)]],[.g 3 [.agg [.w (.int .i64 v),.w (.int .i64 c),.sg 3 [] true]]] =>
     ⟨True,.tup [],if zdq v c then [.g 3 [.agg [.w (.int .i64 v),.w (.int .i64 (inc c)),.ms 1 3 0 1]],.g 3 [.agg [.w (.int .i64 o),.w (.int .i64 t),.w (.int .i64 a)]]]
       else [.g 3 [.agg [.w (.int .i64 v),.w (.int .i64 (inc c)),.sg 3 [] true]]]⟩
 | [.rf 0 3 0 0,.agg [.w (.int .i64 o),.w (.int .i64 t),.w (.int .i64 a)]],[.g 3 [.agg [.w (.int .i64 v),.w (.int .i64 c),.ms 1 3 0 n]],.g 3 xs] =>
     ⟨n = xs.length ∧ 0 < n ∧ n ≤ 1000000 ∧ ∃ es : List Ent,xs = es.map ent,.tup [],if zdq v c then [.g 3 [.agg [.w (.int .i64 v),.w (.int .i64 (inc c)),.ms 2 3 0 (n + 1)]],gone,.g 3 (xs ++ [.agg [.w (.int .i64 o),.w (.int .i64 (lastT t (xs.map uent))),.w (.int .i64 a)]])]
       else [.g 3 [.agg [.w (.int .i64 v),.w (.int .i64 (inc c)),.ms 1 3 0 n]],.g 3 xs]⟩
 | _,_ => zay
section
set_option maxRecDepth 100000
theorem takes_cases (v c : Int) : (decide (v < 1) = true ∧ zdq v c) ∨ (¬ v = 0 ∧ decide (v < 1) = false ∧ decide (c.tmod v = 0) = true ∧ zdq v c) ∨ (¬ v = 0 ∧ decide (v < 1) = false ∧ decide (c.tmod v = 0) = false ∧ ¬ zdq v c) := by
 by_cases h1 : v < 1
 · exact .inl ⟨decide_eq_true h1,.inl h1⟩
 · by_cases h2 : c.tmod v = 0
   · exact .inr (.inl ⟨by omega,decide_eq_false h1,decide_eq_true h2,.inr h2⟩)
   · exact .inr (.inr ⟨by omega,decide_eq_false h1,decide_eq_false h2,fun h => h.elim h1 h2⟩)
set_option maxHeartbeats 2000000 in
theorem putO_sound : SoundO Try.prog 52 putO := by
 refine fn_soundO (S := noS) (SO := noO) (T := ty) zat ty_ok zbo noO_ok Try.func52 (c := Try.f52.body.getD .skip) (by kernel_rfl) (fun xs pins hp => ?_)
 unfold putO at hp ⊢
 split at hp
 · rename_i o t a v c
   refine ⟨by simp,fun _ => .std,by kernel_rfl,?_⟩
   have hinc : (c + 1 + 9223372036854775808) % 18446744073709551616 - 9223372036854775808 = inc c := rfl
   have z0 : decide ((0 : Int) < ((0 : Nat) : Int)) = false := rfl
   unfold Try.f52
   rcases takes_cases v c with D | D | D
   all_goals simp only [go_sem,coe,zad,Nat.reduceAdd,Nat.reduceSub,Nat.reduceMul,Int.reduceToNat,reduceCtorEq,↓reduceIte,Int.reducePow,Nat.reducePow,Int.reduceMod,Nat.reduceLeDiff,Int.reduceLE,Int.reduceNe,Int.reduceEq,Nat.reduceEqDiff,Nat.reduceLT,Nat.reduceBEq,List.map_cons,List.map_nil,List.toList_toArray,Array.toList_append,Option.toArray_some,Option.toArray_none,Bool.and_self,ty,noS,D,hinc,z0]
   all_goals repeat (refine And.intro (by first | omega | decide) ?_)
   all_goals refine ⟨_,Weak.refl _,?_⟩
   all_goals simp only [go_sem,coe,zad,Nat.reduceAdd,Nat.reduceSub,Nat.reduceMul,Int.reduceToNat,reduceCtorEq,↓reduceIte,Int.reducePow,Nat.reducePow,Int.reduceMod,Nat.reduceLeDiff,Int.reduceLE,Int.reduceNe,Int.reduceEq,Nat.reduceEqDiff,Nat.reduceLT,Nat.reduceBEq,List.map_cons,List.map_nil,List.toList_toArray,Array.toList_append,Option.toArray_some,Option.toArray_none,Bool.and_self,ty]
 · rename_i o t a v c n xs
   obtain ⟨rfl,hpos,hle,es,rfl⟩ := hp
   rw [List.length_map] at hpos hle
   refine ⟨by simp,fun _ => .std,by kernel_rfl,?_⟩
   have hinc : (c + 1 + 9223372036854775808) % 18446744073709551616 - 9223372036854775808 = inc c := rfl
   have htop : top = 4294967296 := rfl
   have hlen : (es.map ent).length = es.length := by simp
   have d0 : decide ((0 : Int) < (es.length : Int)) = true := decide_eq_true (by omega)
   have d1 : decide (0 < es.length) = true := decide_eq_true hpos
   have e1 : ((es.length : Int) - 1 + 9223372036854775808) % 18446744073709551616 - 9223372036854775808 = ((es.length - 1 : Nat) : Int) := by omega
   obtain ⟨L,hL⟩ : ∃ L,es.getLast? = some L := by
     cases h : es.getLast? with
     | some L => exact ⟨L,rfl⟩
     | none => rw [List.getLast?_eq_none_iff] at h; subst h; simp at hpos
   have hs : slot (es.map ent) (es.length - 1) = .agg [.w (.int .i64 L.o),.w (.int .i64 L.t),.w (.int .i64 L.a)] := by
     rw [slot_ent es _ (by omega)]
     have : es[es.length - 1]'(by omega) = L := by
       rw [List.getLast?_eq_getElem?,List.getElem?_eq_getElem (by omega)] at hL
       injection hL
     rw [this]; rfl
   have hlt : lastT t es = max t L.t := by unfold lastT; rw [hL]
   have em1 : (if t > L.t then t else L.t) = max t L.t := by split <;> omega
   have em2 : (if L.t > t then L.t else t) = max t L.t := by split <;> omega
   have hcl : closedL (es.map ent ++ [.agg [.w (.int .i64 o),.w (.int .i64 (max t L.t)),.w (.int .i64 a)]]) = true := by
     have := zbg (es ++ [⟨o,max t L.t,a⟩])
     simpa [ent] using this
   unfold Try.f52
   rcases takes_cases v c with D | D | D
   all_goals simp only [go_sem,coe,zad,Nat.reduceAdd,Nat.reduceSub,Nat.reduceMul,Int.reduceToNat,reduceCtorEq,↓reduceIte,Int.reducePow,Nat.reducePow,Int.reduceMod,Nat.reduceLeDiff,Int.reduceLE,Int.reduceNe,Int.reduceEq,Nat.reduceEqDiff,Nat.reduceLT,Nat.reduceBEq,List.map_cons,List.map_nil,List.toList_toArray,Array.toList_append,Option.toArray_some,Option.toArray_none,Bool.and_self,ty,noS,D,hinc,hlen,d0,e1,hs,em1,em2,hlt,zco,Int.toNat_natCast]
   all_goals repeat (refine And.intro (by first | omega | decide) ?_)
   all_goals refine ⟨_,Weak.refl _,?_⟩
   all_goals simp only [go_sem,coe,zad,Nat.reduceAdd,Nat.reduceSub,Nat.reduceMul,Int.reduceToNat,reduceCtorEq,↓reduceIte,Int.reducePow,Nat.reducePow,Int.reduceMod,Nat.reduceLeDiff,Int.reduceLE,Int.reduceNe,Int.reduceEq,Nat.reduceEqDiff,Nat.reduceLT,Nat.reduceBEq,List.map_cons,List.map_nil,List.toList_toArray,Array.toList_append,Option.toArray_some,Option.toArray_none,Bool.and_self,ty,zbg,hcl,hlen]
 · exact hp.elim
end
end Go.Proofs.Ytlcijldkdpmknaa
