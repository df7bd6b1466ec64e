/- What the proofs of this seat stand on; it asks nothing. -/
import Derived.Test.YtffdpbbbdmmdlaaYa10
set_option linter.unusedSimpArgs false
set_option linter.unusedVariables false
namespace Go.Proofs.Ytffdpbbbdmmdlaa
namespace Ax
open Go.RowKit
def LowC (H : Tr Blk) (nx : Nat) : Prop := ∀ id b,H.get id = some b → id < nx
def zpk (P : Program) (call : zcp) : Prop :=
 ∀ g args H nx fl x H' nz,call g args H nx fl = some (x,H',nz) →
  nx ≤ nz ∧ (∀ id b,H'.get id = some b → H.get id ≠ none ∨ (nx ≤ id ∧ id < nz)) ∧ zpi P g ∧ (fl ≤ nx → ∀ id,id < fl → H'.get id = H.get id) ∧
  (LowC H nx → ∀ (w0 : World) (E : Nat → Prop) (w : World) (loc : Loc) (vs : List Value),args.length = vs.length → (∀ (j : Nat) (h : j < args.length) (h' : j < vs.length),R w loc args[j] vs[j]) →
   HR w loc (toH H) → Env w0 E w loc → (∀ id,nx ≤ id → id < nz → loc.m id = .free) →
   Calls P g vs.toArray w fun e w' => ∃ v loc',e = .returned v ∧ PostW w0 E w loc nx nz x (toH H') v w' loc')
theorem HR.congr {w : World} {loc : Loc} {A B : Heap} (h : HR w loc A) (e : ∀ id,look B id = look A id) : HR w loc B := fun id b hb => h id b ((e id).symm.trans hb)
theorem zlo (P : Program) : Fns P (fun _ => none) := fun f s h => by cases h
structure yjh (P : Program) (T : zab) (q : Bool) (τ : CS) (op : Op) (x : AV) (H : Tr Blk) (nz : Nat) : Prop where
 mono : τ.nx ≤ nz
 new : ∀ id b,H.get id = some b → τ.H.get id ≠ none ∨ (τ.nx ≤ id ∧ id < nz)
 keep : LowC τ.H τ.nx → zcm T q op ≤ 1 → ∀ id,¬ (τ.nx ≤ id ∧ id < nz) → H.get id = τ.H.get id
 same : zcm T q op = 0 → ∀ id,H.get id = τ.H.get id
 old : τ.fl ≤ τ.nx → ∀ id,id < τ.fl → H.get id = τ.H.get id
 sem : LowC τ.H τ.nx → ∀ (w0 : World) (E : Nat → Prop) (w : World) (loc : Loc) (a : Act) (o : Oper),o.op = op → ∀ (next : Act → World → Prop) (Q : Exit → Act → World → Prop),
  (∀ y ∈ op.operands.toList,R w loc (evC τ.n τ.sl y) (a.eval y)) → (zcm T q op ≠ 0 → HR w loc (toH τ.H)) → Env w0 E w loc → (∀ id,τ.nx ≤ id → id < nz → loc.m id = .free) →
  (∀ v w' loc',R w' loc' x v → (∃ C : Nat → Prop,Ext C w loc w' loc' ∧ Calm (zcm T q op) C τ.nx (look (toH τ.H)) w' loc') → (∀ id,loc.m id = .free → loc'.m id ≠ .free → τ.nx ≤ id ∧ id < nz) → Env w0 E w' loc' →
   (zcm T q op ≠ 0 → HR w' loc' (toH H)) → loc'.bad = loc.bad → next (a.put o.dst v) w') → o.wp P a w next Q
theorem zob {T : zab} {q : Bool} {op : Op} (h : ∀ c f,op = .call c → c.callee ≠ .value f) : zcm T q op = zac T op := by
 cases op with
 | call c =>
  simp only [zcm]
  cases hc : c.callee with
  | value f => exact (h c f rfl hc).elim
  | _ => rfl
 | _ => rfl
theorem yqk {P : Program} {T : zab} (hT : TOk P T) {n : Nat} {sl : Tr AV} {H : Tr Blk} {op : Op} {x : AV} (h : cSp T (evC n sl) H.get op = some x) {w : World} {loc : Loc} {a : Act} (hev : ∀ y ∈ op.operands.toList,R w loc (evC n sl y) (a.eval y)) (hh : zac T op ≠ 0 → HR w loc (toH H)) :
  ∃ v,R w loc x v ∧ ∀ o : Oper,o.op = op → (execOp a.eval o).run P w = .ok (.value v) w := by
 unfold cSp at h
 split at h
 ·rename_i b t y yt
  split at h
  ·rename_i ti ht
   split at h
   ·rename_i e hd
    have hu : P.underlying t = some (.slice e) := by
     have := (hT t ti ht).d
     rw [hd] at this
     exact this
    have hy := hev y (by simp [Op.operands])
    generalize evC n sl y = yv at hy h
    split at h
    ·rename_i id s off len
     split at h
     ·rename_i blk hb
      cases hlen : decide (0 < len) with
      | false => rw [hlen] at h; cases h
      | true =>
       have hl0 : 0 < len := of_decide_eq_true hlen
       rw [hlen,cond_true] at h
       have key : ∀ (ad : Addr) (k c : Nat),(Op.equal t (.slice (some ad) k c) (.slice none 0 0)).run P w = .ok false w := by
        intro ad k c
        have heq : ∀ d,(Op.equalIn (d + 1) t (.slice (some ad) k c) (.slice none 0 0)).run P w = .ok false w := fun d => by simp [Op.equalIn,run_underlying hu]
        exact heq 9999
       have hop : b = .eql ∨ b = .neq := by cases b <;> first | exact .inl rfl | exact .inr rfl | cases h
       have hk : zac T (.binOp b t y (.const (.slice none 0 0)) yt) ≠ 0 := by rcases hop with rfl | rfl <;> simp [zac]
       have hbr := hh hk id blk (by rw [zak]; exact hb)
       generalize hv : a.eval y = v at hy
       cases hy with
       | ms _ _ _ _ _ ho =>
        unfold Owns at ho
        unfold BlkR at hbr
        cases hm : loc.m id with
        | free => rw [hm] at ho; exact ho.elim
        | dead => rw [hm] at hbr; exact hbr.elim
        | nil => rw [hm] at ho; omega
        | here bb =>
         rw [hm] at ho
         obtain ⟨o',cap,cur,el,fz,rfl,_⟩ := ho
         rcases hop with rfl | rfl
         ·injection h with h; subst h
          refine ⟨.bool false,.w _ rfl,fun o ho => ?_⟩
          simp only [execOp,ho,hv]
          simp [zbv (u := .slice (some ⟨bb,o',none⟩) len cap) rfl (by simp),binOp,key,Act.eval]
         ·injection h with h; subst h
          refine ⟨.bool true,.w _ rfl,fun o ho => ?_⟩
          simp only [execOp,ho,hv]
          simp [zbv (u := .slice (some ⟨bb,o',none⟩) len cap) rfl (by simp),binOp,key,Act.eval]
     ·cases h
    ·cases h
   ·cases h
  ·cases h
 ·cases h
theorem yjs {w : World} {loc : Loc} {id n : Nat} {blk : Blk} (h : BlkR w loc id blk) : BlkR w loc id (zhg n blk) := by
 unfold BlkR at h ⊢
 have hok : blk.ok → (zhg n blk).ok := by
  intro hk
  cases blk with
  | g s xs => exact ⟨hk.1,fun x hx => hk.2 x (List.mem_of_mem_take hx)⟩
  | _ => trivial
 split
 ·trivial
 ·rename_i e; rw [e] at h; exact h
 ·rename_i e
  rw [e] at h
  refine ⟨hok h.1,?_⟩
  have := h.2
  cases blk <;> simp_all [zhg,Blk.len]
 ·rename_i b e
  rw [e] at h
  obtain ⟨hk,hl⟩ := h
  refine ⟨hok hk,?_⟩
  rcases zbc blk with ⟨x,hx,rfl⟩ | hodd
  ·exact hl
  obtain ⟨cur,el,fz,h1,h2,h3,h4,h5⟩ := hl.lies hodd
  have hpre : ∃ m,(zhg n blk).flat = blk.flat.take m := by
   cases blk with
   | b bs => exact ⟨n,by simp [zhg,Blk.flat,List.map_take]⟩
   | i ns => exact ⟨n,by simp [zhg,Blk.flat,List.map_take]⟩
   | g s xs => exact ⟨n * s,zbe xs n hk.2⟩
   | o x => cases hodd
  obtain ⟨m,hm⟩ := hpre
  refine .mkC ⟨cur,el,fz,h1,by cases blk <;> exact h2,h3,by rw [hm,List.length_take]; omega,fun j hj hj' => ?_⟩ (by cases blk <;> first | rfl | cases hodd)
  have hj0 : j < blk.flat.length := by rw [hm,List.length_take] at hj; omega
  have e1 : (zhg n blk).flat[j] = blk.flat[j] := by simp only [hm]; rw [List.getElem_take]
  rw [e1]
  exact h5 j hj0 hj'
theorem yca {e : Operand → AV} {lk : Nat → Option Blk} {op : Op} {id : Nat} {b : Blk} (h : znd e lk op = some (id,b)) : (∃ blk n,lk id = some blk ∧ b = zhg n blk) ∧ ∃ c,op = .call c ∧ c.callee = .builtin .append := by
 unfold znd at h
 split at h
 ·rename_i c
  split at h
  ·rename_i hc
   split at h
   ·split at h
    ·rename_i id' s len hd
     split at h
     ·rename_i blk hb
      cases hl : Nat.blt len blk.len with
      | false => rw [hl] at h; cases h
      | true =>
       rw [hl,cond_true] at h
       injection h with h
       injection h with h1 h2
       subst h1 h2
       exact ⟨⟨blk,len,hb,rfl⟩,c,rfl,hc⟩
     ·cases h
    ·cases h
   ·cases h
  ·cases h
 ·cases h
theorem zuy {id : Nat} {lk lk' : Nat → Option Blk} (hk : ∀ k,k ≠ id → lk k = lk' k) : ∀ {us : Us},ygo id us = true → ∀ k,upd us lk k = upd us lk' k
 | [],h,k => by cases h
 | p :: r,h,k => by
  simp only [ygo,Bool.or_eq_true] at h
  simp only [upd]
  by_cases e : p.1 = k
  ·rw [if_pos e,if_pos e]
  ·rw [if_neg e,if_neg e]
   rcases h with h | h
   ·have := Nat.eq_of_beq_eq_true h
    have hk2 : ∀ (us : Us),upd us lk k = upd us lk' k := by
     intro us
     induction us with
     | nil => exact hk k (fun e' => e (this.trans e'.symm))
     | cons q r ih => simp only [upd]; rw [ih]
    exact hk2 r
   ·exact zuy hk h k
theorem yic {P : Program} {T : zab} (hT : TOk P T) {q : Bool} {τ : CS} {op : Op} {x : AV} {us : Us} {H1 : Tr Blk} {A : Heap} {lk : Nat → Option Blk} (hA : ∀ id,Ax.look A id = lk id) (hdom : ∀ id,lk id ≠ none → τ.H.get id ≠ none) (hk : zcm T q op = zac T op)
  (hHR : ∀ (w : World) (loc : Loc),HR w loc (toH τ.H) → HR w loc A) (hsame : zac T op ≤ 1 → ∀ id,lk id = τ.H.get id) (hc : cop T τ.nx (evC τ.n τ.sl) lk op = some (x,us)) (h2 : ∀ id,H1.get id = upd us lk id) (hold : ∀ id,id < τ.fl → H1.get id = τ.H.get id) : yjh P T q τ op x H1 (τ.nx + 8) := by
  obtain ⟨hp,hx,hH⟩ := ypq (S := fun _ => none) hA (zfp τ.n τ.sl) _ _ hc
  have hH' : ∀ id,H1.get id = look (aop (fun _ => none) T τ.nx (toS τ.n τ.sl) op A).H id := fun id => by rw [hH,h2]
  refine ⟨by omega,fun id b hb => ?_,fun _ hk1 id hid => ?_,fun hk0 id => ?_,fun _ => hold,?_⟩
  ·rw [hH'] at hb
   rcases zei hp id b hb with h | h
   ·rw [hA] at h; exact .inl (hdom id h)
   ·exact .inr h
  ·rw [hk] at hk1
   rw [hH',zya hk1 hp id hid,hA,hsame hk1]
  ·rw [hk] at hk0
   rw [hH',(zns (H := A) hk0 hp).2.2,hA,hsame (by omega)]
  ·intro hlow w0 E w loc a o ho next Q hev hh he hfree hn
   subst ho
   have hev' : ∀ y ∈ o.op.operands.toList,R w loc (ev (toS τ.n τ.sl) y) (a.eval y) := fun y hy => by rw [zfp]; exact hev y hy
   rw [hk] at hh hn
   by_cases hk0 : zac T o.op = 0
   ·obtain ⟨p1,p2,p3⟩ := zns (H := A) hk0 hp
    refine zcb hT (zlo P) he (H := []) (fun id b h => by simp [look] at h) hfree o hev' p1 next Q (fun v w' loc' hpost => ?_)
    obtain ⟨C,hE,hC⟩ := hpost.ext
    have hr := hpost.r
    rw [p2,hx] at hr
    exact hn v w' loc' hr ⟨C,hE,.of fun _ => hC (zji (H := []) (by omega) p1)⟩ hpost.fresh hpost.env (fun h => (h hk0).elim) hpost.bad
   ·refine zcb hT (zlo P) he (hHR w loc (hh hk0)) hfree o hev' hp next Q (fun v w' loc' hpost => ?_)
    obtain ⟨C,hE,hC⟩ := hpost.ext
    have hr := hpost.r
    rw [hx] at hr
    exact hn v w' loc' hr ⟨C,hE,.of fun h => hC (zji h hp)⟩ hpost.fresh hpost.env (fun _ => hpost.h.congr fun id => by rw [zak,hH']) hpost.bad
theorem ykg {P : Program} {T : zab} (hT : TOk P T) {q : Bool} {τ : CS} {op : Op} {x : AV} {H : Tr Blk} {nz : Nat} (hpl : ∀ c f,op = .call c → c.callee ≠ .value f) (h : zje T τ op = some (x,H,nz)) : yjh P T q τ op x H nz := by
 unfold zje at h
 split at h
 ·rename_i y hc
  rw [zea] at h
  injection h with h
  injection h with h3 h
  injection h with h4 h5
  subst h3 h4 h5
  have hk : zcm T q op = zac T op := zob hpl
  refine ⟨by omega,fun id b hb => .inl (by rw [hb]; simp),fun _ _ id _ => rfl,fun _ id => rfl,fun _ _ _ => rfl,?_⟩
  intro hlow w0 E w loc a o ho next Q hev hh he hfree hn
  rw [hk] at hh
  obtain ⟨v,hr,hrun⟩ := yqk (P := P) hT hc hev hh
  unfold Oper.wp
  rw [hrun o ho]
  exact hn v w loc hr ⟨_,Ext.refl w loc,.of fun _ _ h => h⟩ (fun id h h' => (h' h).elim) he (fun hk' => hh (by rw [← hk]; exact hk')) rfl
 rename_i hno
 clear hno
 have hk : zcm T q op = zac T op := zob hpl
 split at h
 ·rename_i id b htr
  obtain ⟨⟨blk,n,hb,rfl⟩,c,rfl,hcal⟩ := yca htr
  split at h
  ·rename_i y us hc
   cases hi : ygo id us with
   | false => rw [hi] at h; cases h
   | true =>
    rw [hi,cond_true] at h
    obtain ⟨H1,h1,h2,hfl⟩ := zyz h
    rw [zea] at h1
    injection h1 with h1
    injection h1 with h3 h1
    injection h1 with h4 h5
    subst h3 h4 h5
    have hne : ∀ k,k ≠ id → τ.H.get k = lkT τ.H.get id (zhg n blk) k := fun k hk => by unfold lkT; rw [if_neg hk]
    refine yic hT (A := put (toH τ.H) id (zhg n blk)) (fun k => ?_) (fun k hk2 => ?_) hk (fun w loc hHR k b hl => ?_) (fun h1 => ?_) hc (fun k => by rw [h2]; exact zuy hne hi k) hfl
    ·rw [zao,zak]; unfold lkT
     by_cases e : k = id
     ·subst e; simp
     ·rw [if_neg e,if_neg (fun e' => e e'.symm)]
    ·unfold lkT at hk2
     by_cases e : k = id
     ·subst e; rw [hb]; simp
     ·rw [if_neg e] at hk2; exact hk2
    ·rw [zao] at hl
     split at hl
     ·rename_i e
      subst e
      injection hl with hl
      subst hl
      exact yjs (hHR id blk (by rw [zak]; exact hb))
     ·exact hHR k b hl
    ·exfalso
     obtain ⟨callee,args,ats⟩ := c
     simp only at hcal
     subst hcal
     simp [zac] at h1
  ·cases h
 ·split at h
  ·rename_i y us hc
   obtain ⟨H1,h1,h2,hfl⟩ := zyz h
   rw [zea] at h1
   injection h1 with h1
   injection h1 with h3 h1
   injection h1 with h4 h5
   subst h3 h4 h5
   exact yic hT (zak τ.H) (fun _ h => h) hk (fun _ _ h => h) (fun _ _ => rfl) hc h2 hfl
  ·cases h
theorem zxr {P : Program} {w0 : World} {E : Nat → Prop} {w : World} {loc : Loc} {H : Heap} {T : zab} {SO : zae} (hS : FnsO P SO) (he : Env w0 E w loc) (hh : HR w loc H) {nm : Nat} (hfree : ∀ id,nm ≤ id → id < nm + 8 → loc.m id = .free) {sl : List AV} {a : Act} (o : Oper)
  (hev : ∀ x ∈ o.op.operands.toList,R w loc (ev sl x) (a.eval x)) (hp : (zci SO T nm sl o.op H).p) : Sd P w0 E w loc true nm (zci SO T nm sl o.op H) o a := by
 cases ho : o.op with
 | call c =>
  obtain ⟨callee,args,argTypes⟩ := c
  cases callee with
  | value f =>
   have hfv := hev f (by rw [ho]; simp [Op.operands,Call.operands])
   simp only [zci,ho] at hp ⊢
   generalize ev sl f = xf at hfv hp ⊢
   split at hp
   ·rename_i g caps
    cases hv : a.eval f with
    | func fn first captured =>
     rw [hv] at hfv
     cases hfv with
     | fn _ _ cs hlc hc =>
      obtain ⟨e1,e2⟩ := zvm (w := w) (loc := loc) (sl := sl) (a := a) args.toList (fun x hx => hev x (by rw [ho]; simp [Op.operands,Call.operands]; right; simpa using hx))
      obtain ⟨c1,c2⟩ := zvq (T := T) (w := w) (loc := loc) argTypes.toList (evs sl args.toList)
      have c2 := c2 (args.toList.map a.eval) e2
      have c3 : ∀ (j : Nat) (h : j < (coes T argTypes.toList (evs sl args.toList) ++ caps).length) (h' : j < (args.toList.map a.eval ++ cs).length),R w loc (coes T argTypes.toList (evs sl args.toList) ++ caps)[j] (args.toList.map a.eval ++ cs)[j] := by
       intro j h h'
       have hl : (coes T argTypes.toList (evs sl args.toList)).length = (args.toList.map a.eval).length := by rw [c1,e1]; simp
       by_cases hj : j < (coes T argTypes.toList (evs sl args.toList)).length
       ·rw [List.getElem_append_left hj,List.getElem_append_left (by omega)]
        exact c2 j hj (by omega)
       ·rw [List.getElem_append_right (by omega),List.getElem_append_right (by omega)]
        have := hc (j - (coes T argTypes.toList (evs sl args.toList)).length) (by rw [List.length_append] at h; omega) (by rw [List.length_append] at h'; omega)
        simpa only [hl] using this
      cases hsg : SO g with
      | none => simp [aOpen,hsg,bad] at hp
      | some sp =>
       obtain ⟨⟨fn,hfn,hbody,hname⟩,hsound⟩ := hS g sp hsg
       have hcall := zrf (P := P) he hh hfree (SO := SO) (fun f s h => (hS f s h).2) (f := g) (by rw [List.length_append,List.length_append,c1,e1,hlc]; simp) c3 hp
       have hrun : (execOp a.eval o).run P w = .ok (.enter g (args.toList.map a.eval ++ cs).toArray) w := by
        have h1 : fn.name ≠ "runtime.NumGoroutine" := by simpa using hname
        have hb' : fn.body ≠ none := by intro e; rw [e] at hbody; simp at hbody
        have h9 : Array.map a.eval args = (args.toList.map a.eval).toArray := by rw [← Array.toList_inj]; simp
        simp [execOp,ho,resolve,hv,Deferred.ofValue,invoke,callFunc,hfn,h1,hb',h9]
       intro next Q hn
       unfold Oper.wp
       rw [hrun]
       refine hcall.mono ?_
       rintro e w' ⟨v,loc',rfl,h1⟩
       exact hn v w' loc' h1
    | _ => rw [hv] at hfv; cases hfv
   ·exact hp.elim
  | _ => simp [zci,ho,bad] at hp
 | _ => simp [zci,ho,bad] at hp
theorem ymw {P : Program} {T : zab} (hT : TOk P T) {S : zae} {SB : zgi} (hS : Fns P S) (hSB : zfw P S SB) {q : Bool} {τ : CS} {f : Operand} {args : Array Operand} {argTypes : Array TypeId} {g : FuncId} {caps : List AV} (hf : evC τ.n τ.sl f = .fn g caps) {x : AV} {H : Tr Blk} {nz : Nat}
  (h : yfn T SB τ q ⟨.value f,args,argTypes⟩ g (coes T argTypes.toList (args.toList.map (evC τ.n τ.sl)) ++ caps) = some (x,H,nz)) : yjh P T q τ (.call ⟨.value f,args,argTypes⟩) x H nz := by
 have em : evs (toS τ.n τ.sl) args.toList = args.toList.map (evC τ.n τ.sl) := by rw [zoo]; exact List.map_congr_left fun x _ => zfp _ _ x
 generalize hA : coes T argTypes.toList (args.toList.map (evC τ.n τ.sl)) ++ caps = A at h
 unfold yfn at h
 split at h
 ·rename_i h0 hsb
  split at h
  ·rename_i y us hc
   cases hq : (!quietC T ⟨.value f,args,argTypes⟩ && !q) with
   | false => rw [hq] at h; cases h
   | true =>
    rw [hq,cond_true] at h
    obtain ⟨H1,h1,h2,hfl⟩ := zyz h
    rw [zea] at h1
    injection h1 with h1
    injection h1 with h3 h1
    injection h1 with h4 h5
    subst h3 h4 h5
    simp only [Bool.and_eq_true,Bool.not_eq_true'] at hq
    obtain ⟨hq1,rfl⟩ := hq
    have hk : zcm T false (.call ⟨.value f,args,argTypes⟩) ≠ 0 := by simp [zcm]
    have hk1 : ¬ zcm T false (.call ⟨.value f,args,argTypes⟩) ≤ 1 := by simp [zcm]
    rcases hSB g h0 hsb with hS1 | ⟨SO,hSO,hS1⟩
    ·obtain ⟨hp0,hx,hH⟩ := hS1 A (toH τ.H) τ.H.get τ.nx (zak τ.H) _ _ hc
     have hop : aop S T τ.nx (toS τ.n τ.sl) (.call ⟨.value f,args,argTypes⟩) (toH τ.H) = (aUser S τ.nx g A (toH τ.H)).and (quietC T ⟨.value f,args,argTypes⟩ = true → rootsL A = [] ∧ lentIdsL A = []) := by
      simp only [aop,aCall,zfp,hf,em,hA]
     have hp : (aop S T τ.nx (toS τ.n τ.sl) (.call ⟨.value f,args,argTypes⟩) (toH τ.H)).p := by rw [hop]; exact ⟨(fun e => by rw [hq1] at e; cases e),hp0⟩
     have hx' : (aop S T τ.nx (toS τ.n τ.sl) (.call ⟨.value f,args,argTypes⟩) (toH τ.H)).x = y := by rw [hop]; exact hx
     have hH' : ∀ id,H1.get id = look (aop S T τ.nx (toS τ.n τ.sl) (.call ⟨.value f,args,argTypes⟩) (toH τ.H)).H id := fun id => by rw [h2,hop]; exact (hH id).symm
     refine ⟨by omega,fun id b hb => ?_,fun _ hk' => (hk1 hk').elim,fun hk' => (hk hk').elim,fun _ => hfl,?_⟩
     ·rw [hH'] at hb
      rcases zei hp id b hb with h | h
      ·rw [zak] at h; exact .inl h
      ·exact .inr h
     ·intro hlow w0 E w loc a o ho next Q hev hh he hfree hn
      have hev' : ∀ y ∈ o.op.operands.toList,R w loc (ev (toS τ.n τ.sl) y) (a.eval y) := fun y hy => by rw [zfp]; exact hev y (by rw [← ho]; exact hy)
      have hs := zcb hT hS he (hh hk) hfree o hev' (by rw [ho]; exact hp)
      rw [ho] at hs
      refine hs next Q (fun v w' loc' hpost => ?_)
      obtain ⟨C,hE,hC⟩ := hpost.ext
      have hr := hpost.r
      rw [hx'] at hr
      exact hn v w' loc' hr ⟨C,hE,.of fun hk' => (hk1 hk').elim⟩ hpost.fresh hpost.env (fun _ => hpost.h.congr fun id => by rw [zak,hH']) hpost.bad
    ·obtain ⟨hp0,hx,hH⟩ := hS1 A (toH τ.H) τ.H.get τ.nx (zak τ.H) _ _ hc
     have hop : zci SO T τ.nx (toS τ.n τ.sl) (.call ⟨.value f,args,argTypes⟩) (toH τ.H) = aOpen SO τ.nx g A (toH τ.H) := by
      simp only [zci,zfp,hf,em,hA]
     have hp : (zci SO T τ.nx (toS τ.n τ.sl) (.call ⟨.value f,args,argTypes⟩) (toH τ.H)).p := by rw [hop]; exact hp0
     have hx' : (zci SO T τ.nx (toS τ.n τ.sl) (.call ⟨.value f,args,argTypes⟩) (toH τ.H)).x = y := by rw [hop]; exact hx
     have hH' : ∀ id,H1.get id = look (zci SO T τ.nx (toS τ.n τ.sl) (.call ⟨.value f,args,argTypes⟩) (toH τ.H)).H id := fun id => by rw [h2,hop]; exact (hH id).symm
     refine ⟨by omega,fun id b hb => ?_,fun _ hk' => (hk1 hk').elim,fun hk' => (hk hk').elim,fun _ => hfl,?_⟩
     ·rw [hH'] at hb
      rcases zut hp id b hb with h | h
      ·rw [zak] at h; exact .inl h
      ·exact .inr h
     ·intro hlow w0 E w loc a o ho next Q hev hh he hfree hn
      have hev' : ∀ y ∈ o.op.operands.toList,R w loc (ev (toS τ.n τ.sl) y) (a.eval y) := fun y hy => by rw [zfp]; exact hev y (by rw [← ho]; exact hy)
      have hs := zxr hSO he (hh hk) hfree o hev' (by rw [ho]; exact hp)
      rw [ho] at hs
      refine hs next Q (fun v w' loc' hpost => ?_)
      obtain ⟨C,hE,hC⟩ := hpost.ext
      have hr := hpost.r
      rw [hx'] at hr
      exact hn v w' loc' hr ⟨C,hE,.of fun hk' => (hk1 hk').elim⟩ hpost.fresh hpost.env (fun _ => hpost.h.congr fun id => by rw [zak,hH']) hpost.bad
  ·cases h
 ·cases h
theorem yqm {P : Program} {T : zab} {call : zcp} (hcall : zpk P call) {τ : CS} {f : Operand} {args : Array Operand} {argTypes : Array TypeId} {g : FuncId} {A : List AV}
  (hexec : zpi P g → ∀ (w : World) (loc : Loc) (a : Act) (o : Oper),o.op = .call ⟨.value f,args,argTypes⟩ → (∀ y ∈ (Op.call ⟨.value f,args,argTypes⟩).operands.toList,R w loc (evC τ.n τ.sl y) (a.eval y)) →
     ∃ cs : List Value,A.length = (args.toList.map a.eval ++ cs).length ∧ (∀ (j : Nat) (h : j < A.length) (h' : j < (args.toList.map a.eval ++ cs).length),R w loc A[j] (args.toList.map a.eval ++ cs)[j]) ∧
      (execOp a.eval o).run P w = .ok (.enter g (args.toList.map a.eval ++ cs).toArray) w)
  {x : AV} {H : Tr Blk} {nz : Nat} (h : ynb call τ g A = some (x,H,nz)) : yjh P T true τ (.call ⟨.value f,args,argTypes⟩) x H nz := by
 unfold ynb at h
 obtain ⟨Hr,hgc,hsub⟩ := zqs (src := τ.H) 100000 (idsL A) .leaf (yfa call τ g A)
 rw [hgc] at h
 unfold yfa at h
 have hsub : ∀ id b,Hr.get id = some b → τ.H.get id = some b := fun id b hb => (hsub id b hb).resolve_left (fun h => by rw [zds] at h; cases h)
 cases hno : (allN τ.H Hr τ.nx (idsL A) && allT (fun b => allN τ.H Hr τ.nx b.ids) Hr) with
 | false => rw [hno] at h; cases h
 | true =>
  rw [hno,cond_true] at h
  simp only [Bool.and_eq_true] at hno
  split at h
  ·rename_i y H0 nz1 hc1
   rw [zjz] at h
   injection h with h
   injection h with h4 h
   injection h with h5 h6
   subst h4 h5 h6
   obtain ⟨h1,h2,hent,hol,h3⟩ := hcall _ _ _ _ _ _ _ _ hc1
   have hol := hol (Nat.le_refl _)
   have hk : zcm T true (.call ⟨.value f,args,argTypes⟩) = 1 := rfl
   refine ⟨h1,fun id b hb => ?_,fun hlow _ id hid => ?_,(fun hk0 => by rw [hk] at hk0; cases hk0),fun hfn id hid => ?_,?_⟩
   ·rw [zcn] at hb
    cases hg : H0.get id with
    | none => rw [hg] at hb; simp only at hb; exact .inl (by rw [hb]; simp)
    | some c =>
     rcases h2 id c hg with h | h
     ·cases hr : Hr.get id with
      | none => exact (h hr).elim
      | some c' => exact .inl (by rw [hsub id c' hr]; simp)
     ·exact .inr h
   ·rw [zcn]
    cases hg : H0.get id with
    | none => rfl
    | some c =>
     have hlt : id < τ.nx := by
      rcases h2 id c hg with h | h
      ·cases hr : Hr.get id with
       | none => exact (h hr).elim
       | some c' => exact hlow id c' (hsub id c' hr)
      ·exact (hid h).elim
     have := hol id hlt
     rw [hg] at this
     exact (hsub id c this.symm).symm
   ·rw [zcn]
    cases hg : H0.get id with
    | none => rfl
    | some c =>
     have := hol id (by omega)
     rw [hg] at this
     exact (hsub id c this.symm).symm
   ·intro hlow w0 E w loc a o ho next Q hev hh he hfree hn
    obtain ⟨cs,hlen,hR,hrun⟩ := hexec hent w loc a o ho hev
    unfold Oper.wp
    rw [hrun]
    have hold := hh (by rw [hk]; simp)
    let F : Nat → Prop := fun id => Hr.get id ≠ none ∨ (τ.H.get id = none ∧ id < τ.nx)
    have hlowr : LowC Hr τ.nx := fun id b hb => hlow id b (hsub id b hb)
    have hFlt : ∀ id,F id → id < τ.nx := by
     rintro id (h | h)
     ·cases hr : Hr.get id with
      | none => exact (h hr).elim
      | some c => exact hlowr id c hr
     ·exact h.2
    have hR' : ∀ (j : Nat) (h : j < A.length) (h' : j < (args.toList.map a.eval ++ cs).length),R w (loc.onlyP F) A[j] (args.toList.map a.eval ++ cs)[j] := fun j p q =>
     (hR j p q).onlyP fun id hid _ => ztf hno.1 id (zdr j p hid)
    have hHr : HR w (loc.onlyP F) (toH Hr) := fun id b hb => by
     rw [zak] at hb
     refine (hold id b (by rw [zak]; exact hsub id b hb)).onlyP fun k hkm _ => ?_
     exact ztf (znb hno.2 id b hb) k (yal hkm)
    refine (h3 hlowr w (InP loc F) w (loc.onlyP F) _ hlen hR' hHr (Env.onlyP he) (fun id hi1 hi2 => zjf fun hF => by have := hFlt id hF; omega)).mono ?_
    rintro e w' ⟨v,loc',rfl,hp⟩
    obtain ⟨p1,p2,p3,⟨C,p4,p5⟩,p6,p7⟩ := PostW.frame he hfree (fun id b hb => by
     rw [zak] at hb
     rcases h2 id b hb with h | h
     ·exact .inl (.inl h)
     ·exact .inr h) hp
    have hrec : ∀ id b,Hr.get id = some b → BlkR w' (loc.backP loc' F τ.nx nz1) id b := fun id b hb => p2 id b (by rw [zak,hol id (hlowr id b hb)]; exact hb)
    refine hn v w' _ p1 ⟨C,p4,⟨(fun h => by rw [hk] at h; cases h),fun _ id hc => ⟨hFlt id (p5 id hc),fun b hb => ?_⟩⟩⟩ p6 p3 (fun _ => ?_) p7
    ·rw [zak] at hb
     rcases p5 id hc with h | h
     ·cases hr : Hr.get id with
      | none => exact (h hr).elim
      | some c =>
       have := hsub id c hr
       rw [hb] at this; injection this with this; subst this
       exact hrec id b hr
     ·rw [h.1] at hb; cases hb
    ·intro id b hb
     rw [zak,zcn] at hb
     cases hg : H0.get id with
     | some c =>
      rw [hg] at hb
      injection hb with hb
      subst hb
      exact p2 id c (by rw [zak]; exact hg)
     | none =>
      rw [hg] at hb
      simp only at hb
      have hlt := hlow id b hb
      have hrn : Hr.get id = none := by rw [← hol id hlt]; exact hg
      have h0 := hold id b (by rw [zak]; exact hb)
      have hnC : ¬ C id := fun hc => by
       rcases p5 id hc with h | h
       ·exact h hrn
       ·rw [h.1] at hb; cases hb
      by_cases hf : loc.m id = .free
      ·by_cases hn' : (loc.backP loc' F τ.nx nz1).m id = .free
       ·exact BlkR.free hn'
       ·have h6 := p6 id hf hn'
        omega
      ·exact h0.ext p4 hnC hf
  ·cases h
theorem yoq {P : Program} {T : zab} (hT : TOk P T) {S : zae} {SB : zgi} (hS : Fns P S) (hSB : zfw P S SB) {call : zcp} (hcall : zpk P call) {q : Bool} {τ : CS} {op : Op} {x : AV} {H : Tr Blk} {nz : Nat} (h : zua T SB call τ q op = some (x,H,nz)) : yjh P T q τ op x H nz := by
 by_cases hpl : ∀ c f,op = .call c → c.callee ≠ .value f
 ·refine ykg hT hpl ?_
  cases op with
  | call c =>
   simp only [zua] at h
   cases hc : c.callee with
   | value f => exact (hpl c f rfl hc).elim
   | _ => simp only [hc] at h; exact h
  | _ => exact h
 ·obtain ⟨c,f,rfl,hc⟩ : ∃ c f,op = .call c ∧ c.callee = .value f := by
   rcases Classical.not_forall.1 hpl with ⟨c,h1⟩
   rcases Classical.not_forall.1 h1 with ⟨f,h2⟩
   refine ⟨c,f,?_,?_⟩
   ·exact Classical.byContradiction fun e => h2 fun e' => (e e').elim
   ·exact Classical.byContradiction fun e => h2 fun _ => e
  obtain ⟨callee,args,argTypes⟩ := c
  simp only at hc
  subst hc
  simp only [zua] at h
  cases hf : evC τ.n τ.sl f with
  | fn g caps =>
   rw [hf] at h
   simp only at h
   split at h
   ·rename_i r hr
    injection h with h; subst h
    exact ymw hT hS hSB hf hr
   rename_i hno
   clear hno
   generalize hA : coes T argTypes.toList (args.toList.map (evC τ.n τ.sl)) ++ caps = A at h
   -- the call itself
   have hexec : zpi P g → ∀ (w : World) (loc : Loc) (a : Act) (o : Oper),o.op = .call ⟨.value f,args,argTypes⟩ → (∀ y ∈ (Op.call ⟨.value f,args,argTypes⟩).operands.toList,R w loc (evC τ.n τ.sl y) (a.eval y)) →
     ∃ cs : List Value,A.length = (args.toList.map a.eval ++ cs).length ∧ (∀ (j : Nat) (h : j < A.length) (h' : j < (args.toList.map a.eval ++ cs).length),R w loc A[j] (args.toList.map a.eval ++ cs)[j]) ∧
      (execOp a.eval o).run P w = .ok (.enter g (args.toList.map a.eval ++ cs).toArray) w := by
    intro ⟨fn,hfn,hbody,hname⟩ w loc a o ho hev
    have hfv := hev f (by simp [Op.operands,Call.operands])
    rw [hf] at hfv
    have hargs : ∀ x ∈ args.toList,R w loc (evC τ.n τ.sl x) (a.eval x) := fun x hx => hev x (by simp [Op.operands,Call.operands]; right; simpa using hx)
    cases hv : a.eval f with
    | func fn' first captured =>
     rw [hv] at hfv
     cases hfv with
     | fn _ _ cs hlc hcR =>
      obtain ⟨e1,e2⟩ := zvm (sl := toS τ.n τ.sl) args.toList (fun x hx => by rw [zfp]; exact hargs x hx)
      have em : evs (toS τ.n τ.sl) args.toList = args.toList.map (evC τ.n τ.sl) := by rw [zoo]; exact List.map_congr_left fun x _ => zfp _ _ x
      rw [em] at e1 e2
      obtain ⟨c1,c2⟩ := zvq (T := T) (w := w) (loc := loc) argTypes.toList (args.toList.map (evC τ.n τ.sl))
      have c2 := c2 (args.toList.map a.eval) e2
      refine ⟨cs,by rw [← hA]; simp [c1,hlc],?_,?_⟩
      ·subst hA
       intro j p q
       by_cases hj : j < (coes T argTypes.toList (args.toList.map (evC τ.n τ.sl))).length
       ·rw [List.getElem_append_left hj,List.getElem_append_left (by rw [c1] at hj; simpa using hj)]
        exact c2 j hj _
       ·have hl : (coes T argTypes.toList (args.toList.map (evC τ.n τ.sl))).length = (args.toList.map a.eval).length := by simp [c1]
        rw [List.getElem_append_right (by omega),List.getElem_append_right (by omega)]
        have := hcR (j - (coes T argTypes.toList (args.toList.map (evC τ.n τ.sl))).length) (by rw [List.length_append] at p; omega) (by rw [List.length_append] at q; omega)
        simpa [hl] using this
      ·have h1 : fn.name ≠ "runtime.NumGoroutine" := by simpa using hname
       have hb' : fn.body ≠ none := by intro e; rw [e] at hbody; simp at hbody
       simp [execOp,ho,resolve,hv,Deferred.ofValue,invoke,callFunc,hfn,h1,hb']
    | _ => rw [hv] at hfv; cases hfv
   cases q with
   | false =>
    simp only [cond_false] at h
    obtain ⟨h1,h2,hent,hol,h3⟩ := hcall _ _ _ _ _ _ _ _ h
    have hk : zcm T false (.call ⟨.value f,args,argTypes⟩) = 2 := rfl
    refine ⟨h1,h2,(fun _ hk1 => by rw [hk] at hk1; omega),(fun hk0 => by rw [hk] at hk0; cases hk0),hol,?_⟩
    intro hlow w0 E w loc a o ho next Q hev hh he hfree hn
    obtain ⟨cs,hlen,hR,hrun⟩ := hexec hent w loc a o ho hev
    unfold Oper.wp
    rw [hrun]
    refine (h3 hlow w0 E w loc _ hlen hR (hh (by rw [hk]; simp)) he hfree).mono ?_
    rintro e w' ⟨v,loc',rfl,hp⟩
    obtain ⟨C,hC⟩ := hp.tn.ext
    exact hn v w' loc' hp.r ⟨C,hC,.of fun hk1 => by rw [hk] at hk1; omega⟩ hp.tn.fresh hp.env (fun _ => hp.h) hp.tn.bad
   | true =>
    simp only [cond_true] at h
    cases hi : closedL (A.map (frqV τ.H)) with
    | false =>
     rw [hi,cond_false] at h
     exact yqm hcall hexec h
    | true =>
     rw [hi,cond_true] at h
     split at h
     ·rename_i y H0 nz1 hc1
      obtain ⟨H1,hgc,hsub⟩ := zqs (src := H0) 100000 y.ids .leaf (fun H => bif y.noimm && allT Blk.noimm H then (τ.H.unionK H fun H => some (y,H,nz1)) else none)
      rw [hgc] at h
      have hsub : ∀ id b,H1.get id = some b → H0.get id = some b := fun id b hb => (hsub id b hb).resolve_left (fun h => by rw [zds] at h; cases h)
      cases hno : (y.noimm && allT Blk.noimm H1) with
      | false => rw [hno] at h; cases h
      | true =>
       rw [hno,cond_true,zjz] at h
       injection h with h
       injection h with h4 h
       injection h with h5 h6
       subst h4 h5 h6
       simp only [Bool.and_eq_true] at hno
       obtain ⟨h1,h2,hent,_,h3⟩ := hcall _ _ _ _ _ _ _ _ hc1
       have hwin : ∀ id b,H1.get id = some b → τ.nx ≤ id ∧ id < nz1 := fun id b hb => by
        rcases h2 id b (hsub id b hb) with h | h
        ·exact (h rfl).elim
        ·exact h
       have hk : zcm T true (.call ⟨.value f,args,argTypes⟩) = 1 := rfl
       refine ⟨h1,fun id b hb => ?_,fun _ _ id hid => ?_,(fun hk0 => by rw [hk] at hk0; cases hk0),fun hfn id hid => ?_,?_⟩
       ·rw [zcn] at hb
        cases hg : H1.get id with
        | none => rw [hg] at hb; simp only at hb; exact .inl (by rw [hb]; simp)
        | some c => exact .inr (hwin id c hg)
       ·rw [zcn]
        cases hg : H1.get id with
        | none => rfl
        | some c => exact (hid (hwin id c hg)).elim
       ·rw [zcn]
        cases hg : H1.get id with
        | none => rfl
        | some c => have := hwin id c hg; omega
       ·intro hlow w0 E w loc a o ho next Q hev hh he hfree hn
        obtain ⟨cs,hlen,hR,hrun⟩ := hexec hent w loc a o ho hev
        unfold Oper.wp
        rw [hrun]
        have hold := hh (by rw [hk]; simp)
        have hR' : ∀ (j : Nat) (h : j < (A.map (frqV τ.H)).length) (h' : j < (args.toList.map a.eval ++ cs).length),R w loc.bare (A.map (frqV τ.H))[j] (args.toList.map a.eval ++ cs)[j] := fun j p q => by
         have hj : j < A.length := by simpa using p
         have hcl := zbf hi j p
         rw [List.getElem_map] at hcl ⊢
         exact ynl he hold (hR j hj q) hcl
        refine (h3 (fun id b hb => by rw [zds] at hb; cases hb) w (fun _ => False) w loc.bare _ (by rw [List.length_map]; exact hlen) hR' (fun id b hb => by rw [zak,zds] at hb; cases hb) (yle he) (fun id _ _ => rfl)).mono ?_
        rintro e w' ⟨v,loc',rfl,hp⟩
        have hp : PostW w (fun _ => False) w loc.bare τ.nx nz1 y (toH H1) v w' loc' := ⟨hp.r,fun id b hb => hp.h id b (by rw [zak] at hb ⊢; exact hsub id b hb),hp.env,hp.tn⟩
        obtain ⟨p1,p2,p3,p4,p6,p7⟩ := ycn he hfree hno.1 hno.2 hwin hp
        refine hn v w' _ p1 ⟨_,p4,.of fun _ id hc => hc⟩ p6 p3 (fun _ => ?_) p7
        intro id b hb
        rw [zak,zcn] at hb
        cases hg : H1.get id with
        | none =>
         rw [hg] at hb
         simp only at hb
         have h0 := hold id b (by rw [zak]; exact hb)
         by_cases hf : loc.m id = .free
         ·by_cases hn' : (loc.with loc' τ.nx nz1).m id = .free
          ·exact BlkR.free hn'
          ·have h6 := p6 id hf hn'
           have := hlow id b hb
           omega
         ·exact h0.ext p4 (fun hc => hc) hf
        | some c =>
         rw [hg] at hb
         injection hb with hb
         subst hb
         exact p2 id c (by rw [zak]; exact hg)
     ·cases h
  | _ => rw [hf] at h; cases h
structure StepOk (P : Program) (T : zab) (ops : List Oper) (q : Bool) (τ : CS) (o : Oper) (x : AV) (τ' : CS) : Prop where
 n : τ'.n = τ.n
 mono : τ.nx ≤ τ'.nx
 slot : ∀ t,slot (toS τ'.n τ'.sl) t = if o.dst = some t ∧ t < τ.n then x else slot (toS τ.n τ.sl) t
 new : ∀ id b,τ'.H.get id = some b → τ.H.get id ≠ none ∨ (τ.nx ≤ id ∧ id < τ'.nx)
 keep : LowC τ.H τ.nx → zcm T q o.op ≤ 1 → ∀ id,¬ (τ.nx ≤ id ∧ id < τ'.nx) → τ'.H.get id = τ.H.get id
 same : zcm T q o.op = 0 → ∀ id,τ'.H.get id = τ.H.get id
 fl : τ'.fl = τ.fl
 old : τ.fl ≤ τ.nx → ∀ id,id < τ.fl → τ'.H.get id = τ.H.get id
 sem : LowC τ.H τ.nx → ∀ (w0 : World) (E : Nat → Prop) (w : World) (loc : Loc) (a : Act) (next : Act → World → Prop) (Q : Exit → Act → World → Prop),a.tmps.size = τ.n →
  (∀ t ∈ o.looksAt ops.toArray,R w loc (Ax.slot (toS τ.n τ.sl) t) (a.tmps.getD t undef)) → (zcm T q o.op ≠ 0 → HR w loc (toH τ.H)) → Env w0 E w loc → (∀ id,τ.nx ≤ id → id < τ'.nx → loc.m id = .free) →
  (∀ v w' loc',R w' loc' x v → (∃ C : Nat → Prop,Ext C w loc w' loc' ∧ Calm (zcm T q o.op) C τ.nx (look (toH τ.H)) w' loc') → (∀ id,loc.m id = .free → loc'.m id ≠ .free → τ.nx ≤ id ∧ id < τ'.nx) → Env w0 E w' loc' →
   (zcm T q o.op ≠ 0 → HR w' loc' (toH τ'.H)) → loc'.bad = loc.bad → next (a.put o.dst v) w') →
  if Region.wanted o (yielded ops.toArray a.tmps) then o.wp P a w next Q else next (a.put o.dst undef) w
theorem zxe {P : Program} {T : zab} (hT : TOk P T) {S : zae} {SB : zgi} (hS : Fns P S) (hSB : zfw P S SB) {call : zcp} (hcall : zpk P call) {ops : List Oper} {q : Bool} {τ : CS} {o : Oper} {τ' : CS} (h : zli T SB call ops q τ o = some τ') : ∃ x,StepOk P T ops q τ o x τ' := by
 -- the operation is wanted
 have hrun : ∀ (τ' : CS),ycr T SB call τ q o = some τ' → (∀ (a : Act) (w : World) (loc : Loc),a.tmps.size = τ.n → (∀ t ∈ o.looksAt ops.toArray,R w loc (Ax.slot (toS τ.n τ.sl) t) (a.tmps.getD t undef)) → Region.wanted o (yielded ops.toArray a.tmps) = true) → ∃ x,StepOk P T ops q τ o x τ' := by
  intro τ' h hw
  unfold ycr at h
  split at h
  ·rename_i x H nz hv
   rw [zkt] at h
   obtain ⟨sl',h1,h2⟩ := yfg h
   injection h1 with h1
   subst h1
   have hok := yoq hT hS hSB hcall hv
   refine ⟨x,rfl,hok.mono,h2,hok.new,hok.keep,hok.same,rfl,hok.old,?_⟩
   intro hlow w0 E w loc a next Q hsz hlook hh he hfree hn
   rw [if_pos (hw a w loc hsz hlook)]
   refine hok.sem hlow w0 E w loc a o rfl next Q (fun y hy => ?_) hh he hfree hn
   rw [← zfp]
   cases y with
   | tmp t => exact hlook t (by unfold Oper.looksAt; exact List.mem_append_left _ (List.mem_filterMap.2 ⟨.tmp t,hy,rfl⟩))
   | const v => exact ev_R (sl := []) (a := a) (fun t => .junk _) (.const v)
   | global g => exact .junk _
   | func f => exact ev_R (sl := []) (a := a) (fun t => .junk _) (.func f)
  ·cases h
 -- it is not
 have hskip : ∀ (τ' : CS),zql τ o = some τ' → (∀ (a : Act) (w : World) (loc : Loc),a.tmps.size = τ.n → (∀ t ∈ o.looksAt ops.toArray,R w loc (Ax.slot (toS τ.n τ.sl) t) (a.tmps.getD t undef)) → ¬ Region.wanted o (yielded ops.toArray a.tmps) = true) → ∃ x,StepOk P T ops q τ o x τ' := by
  intro τ' h hw
  unfold zql at h
  obtain ⟨sl',h1,h2⟩ := yfg h
  injection h1 with h1
  subst h1
  refine ⟨.tup [],rfl,Nat.le_refl _,h2,fun id b hb => .inl (by simp only at hb; rw [hb]; simp),fun _ _ _ _ => rfl,fun _ _ => rfl,rfl,fun _ _ _ => rfl,?_⟩
  intro hlow w0 E w loc a next Q hsz hlook hh he hfree hn
  rw [if_neg (hw a w loc hsz hlook)]
  exact hn undef w loc zgl ⟨_,Ext.refl w loc,.of fun _ _ h => h⟩ (fun id h h' => (h' h).elim) he hh rfl
 unfold zli at h
 cases hgd : o.guard with
 | none =>
  rw [hgd] at h
  exact hrun τ' h fun a w loc _ _ => by simp [Region.wanted,hgd]
 | some g =>
  obtain ⟨j,want⟩ := g
  rw [hgd] at h
  simp only at h
  cases hgs : guardSlot ops j with
  | none => rw [hgs] at h; cases h
  | some d =>
   rw [hgs] at h
   simp only at h
   have hdl : d ∈ o.looksAt ops.toArray := by
    unfold Oper.looksAt
    refine List.mem_append_right _ ?_
    rw [hgd]
    unfold guardSlot at hgs
    cases hj : ops[j]? with
    | none => rw [hj] at hgs; cases hgs
    | some oj =>
     rw [hj] at hgs
     simp only at hgs
     simp [hj,hgs]
   have hsl : evC τ.n τ.sl (.tmp d) = Ax.slot (toS τ.n τ.sl) d := (zfp τ.n τ.sl (.tmp d)).symm
   split at h
   ·rename_i b hsd
    rw [hsl] at hsd
    have hlt : d < τ.n := by
     rcases Nat.lt_or_ge d τ.n with h' | h'
     ·exact h'
     ·rw [zdg (by rw [zbs]; exact h')] at hsd; cases hsd
    have hy : ∀ (a : Act) (w : World) (loc : Loc),a.tmps.size = τ.n → (∀ t ∈ o.looksAt ops.toArray,R w loc (Ax.slot (toS τ.n τ.sl) t) (a.tmps.getD t undef)) → (Region.wanted o (yielded ops.toArray a.tmps) = true ↔ b = want) := by
     intro a w loc hsz hlook
     have hval := hlook d hdl
     rw [hsd] at hval
     have hy := zfx (ops := ops.toArray) (by simpa using hgs) (by rw [hsz]; exact hlt) hval.wv
     simp [Region.wanted,hgd,hy]
    by_cases hbw : b = want
    ·have : (b == want) = true := by simp [hbw]
     rw [this] at h
     exact hrun τ' h fun a w loc h1 h2 => (hy a w loc h1 h2).2 hbw
    ·have : (b == want) = false := by simp [hbw]
     rw [this] at h
     exact hskip τ' h fun a w loc h1 h2 hw => hbw ((hy a w loc h1 h2).1 hw)
   ·rename_i hsd
    rw [hsl] at hsd
    exact hskip τ' h fun a w loc h1 h2 hw => by
     have hval := h2 d hdl
     rw [hsd] at hval
     simp [Region.wanted,hgd,zdu (ops := ops.toArray) (by simpa using hgs) (yef hval)] at hw
   ·cases h
abbrev RelT (Z : Nat) (w0 : World) (E : Nat → Prop) (loc : Loc) (τ : CS) (a : Act) (w : World) : Prop := RelL Z w0 E loc (toS τ.n τ.sl) (toH τ.H) τ.nx a w
structure PureOk (τ τ' : CS) : Prop where
 n : τ'.n = τ.n
 mono : τ.nx ≤ τ'.nx
 new : ∀ id b,τ'.H.get id = some b → τ.H.get id ≠ none ∨ (τ.nx ≤ id ∧ id < τ'.nx)
 fl : τ'.fl = τ.fl
 old : τ.fl ≤ τ.nx → ∀ id,id < τ.fl → τ'.H.get id = τ.H.get id
theorem PureOk.refl (τ : CS) : PureOk τ τ := ⟨rfl,Nat.le_refl _,fun id b h => .inl (by rw [h]; simp),rfl,fun _ _ _ => rfl⟩
theorem PureOk.trans {a b c : CS} (h : PureOk a b) (k : PureOk b c) : PureOk a c := by
 refine ⟨k.n.trans h.n,Nat.le_trans h.mono k.mono,fun id x hx => ?_,k.fl.trans h.fl,fun hf id hi => ?_⟩
 rotate_left
 ·have h1 := h.mono
  have h2 := h.fl
  rw [k.old (by omega) id (by omega),h.old hf id hi]
 have h1 := h.mono
 have h2 := k.mono
 rcases k.new id x hx with h' | h'
 ·cases hb : b.H.get id with
  | none => exact (h' hb).elim
  | some y =>
   rcases h.new id y hb with h3 | h3
   ·exact .inl h3
   ·exact .inr ⟨h3.1,by omega⟩
 ·exact .inr ⟨by omega,h'.2⟩
theorem PureOk.low {τ τ' : CS} (h : PureOk τ τ') (hl : LowC τ.H τ.nx) : LowC τ'.H τ'.nx := by
 intro id b hb
 have h1 := h.mono
 rcases h.new id b hb with h' | h'
 ·cases hc : τ.H.get id with
  | none => exact (h' hc).elim
  | some y => have := hl id y hc; omega
 ·exact h'.2
theorem StepOk.pureOk {P : Program} {T : zab} {ops : List Oper} {q : Bool} {τ : CS} {o : Oper} {x : AV} {τ' : CS} (h : StepOk P T ops q τ o x τ') : PureOk τ τ' := ⟨h.n,h.mono,h.new,h.fl,h.old⟩
section
variable {P : Program} {T : zab} (hT : TOk P T) {S : zae} {SB : zgi} (hS : Fns P S) (hSB : zfw P S SB) {call : zcp} (hcall : zpk P call) {ops : List Oper} {q : Nat → Bool}
include hT hS hSB hcall
theorem zjc : ∀ (r : List Oper) (k : Nat) (τ τ' : CS),zfj T SB call ops q k r τ = some τ' → PureOk τ τ'
 | [],k,τ,τ',h => by injection h with h; subst h; exact .refl _
 | o :: r,k,τ,τ',h => by
  unfold zfj at h
  split at h
  ·rename_i τ1 h1
   obtain ⟨x,hs⟩ := zxe hT hS hSB hcall h1
   exact hs.pureOk.trans (zjc r (k + 1) τ1 τ' h)
  ·cases h
theorem zqf {Z : Nat} {w0 : World} {E : Nat → Prop} {K : Exit → Act → World → Prop} : ∀ (r : List Oper) (k : Nat) (τ τ' : CS) (a : Act) (w : World) (loc : Loc),zfj T SB call ops q k r τ = some τ' → LowC τ.H τ.nx → τ'.nx ≤ Z → RelT Z w0 E loc τ a w →
  (∀ a' w' loc',RelT Z w0 E loc' τ' a' w' → Tn w loc τ.nx τ'.nx w' loc' → K .normal a' w') → wpList P ops.toArray K r a w
 | [],k,τ,τ',a,w,loc,h,hl,hz,hr,hK => by
  injection h with h; subst h
  exact wpList_nil (hK a w loc hr (Tn.refl _ _ _ _))
 | o :: r,k,τ,τ',a,w,loc,h,hl,hz,hr,hK => by
  unfold zfj at h
  split at h
  ·rename_i τ1 h1
   obtain ⟨x,hs⟩ := zxe hT hS hSB hcall h1
   have hp1 := hs.pureOk
   have hp2 := zjc hT hS hSB hcall r (k + 1) τ1 τ' h
   refine wpList_step fun Kn hKn => ?_
   refine hs.sem hl w0 E w loc a Kn K (by rw [hr.size,zbs]) (fun t _ => hr.slots t) (fun _ => hr.heap) hr.env (fun id h1 h2 => hr.fresh id h1 (by have := hp2.mono; omega)) ?_
   rintro v w' loc' hrx ⟨C,hE,hC⟩ hfr he hh hb
   have htn : Tn w loc τ.nx τ1.nx w' loc' := ⟨⟨C,hE⟩,hfr,hb⟩
   refine hKn _ _ (zqf r (k + 1) τ1 τ' _ w' loc' h (hp1.low hl) hz ?_ fun a2 w2 loc2 h2 h3 => hK a2 w2 loc2 h2 (htn.trans h3 hp1.mono hp2.mono))
   refine ⟨?_,fun t => ?_,?_,he,fun id h1 h2 => ?_,?_⟩
   ·rw [zbs,hp1.n]
    cases o.dst <;> simp [Act.put,hr.size,zbs]
   ·rw [hs.slot t]
    by_cases hd : o.dst = some t ∧ t < τ.n
    ·rw [if_pos hd,hd.1]
     have : (a.put (some t) v).tmps.getD t undef = v := by
      have := hr.size
      rw [zbs] at this
      simp [Act.put,this,hd.2]
     rw [this]; exact hrx
    ·rw [if_neg hd]
     have hold := (hr.slots t).ext hE
     cases hdd : o.dst with
     | none => exact hold
     | some d =>
      by_cases hdt : d = t
      ·subst hdt
       have hge : τ.n ≤ d := Nat.le_of_not_lt fun h => hd ⟨hdd,h⟩
       rw [zdg (by rw [zbs]; exact hge)]
       exact .junk _
      ·have : (a.put (some d) v).tmps.getD t undef = a.tmps.getD t undef := by simp [Act.put,Array.getElem?_setIfInBounds_ne hdt]
       rw [this]; exact hold
   ·by_cases hk : zcm T (q k) o.op = 0
    ·intro id b hb
     rw [zak,hs.same hk id] at hb
     have h0 := hr.heap id b (by rw [zak]; exact hb)
     by_cases hf : loc.m id = .free
     ·by_cases hn : loc'.m id = .free
      ·exact BlkR.free hn
      ·have := hfr id hf hn
       have := hl id b hb
       omega
     ·exact h0.ext hE (hC.zero hk id) hf
    ·exact hh hk
   ·have hf := hr.fresh id (by have := hp1.mono; omega) h2
    by_cases hn : loc'.m id = .free
    ·exact hn
    ·have := hfr id hf hn; omega
   ·rw [← hr.defers]; cases o.dst <;> rfl
  ·cases h
end
def zpr (f : Nat → CS → Oper → Option CS) (l : List Oper) (τ : CS) : Nat → CS
 | 0 => τ
 | k + 1 => match l[k]? with
  | some o => (f k (zpr f l τ k) o).getD (zpr f l τ k)
  | none => zpr f l τ k
theorem znm {T : zab} {SB : zgi} {call : zcp} {ops l : List Oper} {q : Nat → Bool} {τ0 : CS} : ∀ (r : List Oper) (k : Nat) (τ' : CS),(∀ j,r[j]? = l[k + j]?) → k + r.length = l.length → zfj T SB call ops q k r (zpr (fun i => zli T SB call ops (q i)) l τ0 k) = some τ' →
  zpr (fun i => zli T SB call ops (q i)) l τ0 l.length = τ' ∧ ∀ j o,k ≤ j → l[j]? = some o → zli T SB call ops (q j) (zpr (fun i => zli T SB call ops (q i)) l τ0 j) o = some (zpr (fun i => zli T SB call ops (q i)) l τ0 (j + 1))
 | [],k,τ',hr,hl,h => by
  simp at hl
  subst hl
  injection h with h
  refine ⟨h,fun j o hj ho => ?_⟩
  rw [List.getElem?_eq_none hj] at ho; cases ho
 | o :: r,k,τ',hr,hl,h => by
  have ho : l[k]? = some o := by simpa using (hr 0).symm
  have hr' : ∀ j,r[j]? = l[k + 1 + j]? := fun j => by have := hr (j + 1); simpa [Nat.add_assoc,Nat.add_comm 1 j] using this
  have hl' : k + 1 + r.length = l.length := by simp at hl; omega
  unfold zfj at h
  split at h
  ·rename_i τ1 h1
   have e : zpr (fun i => zli T SB call ops (q i)) l τ0 (k + 1) = τ1 := by simp only [zpr,ho,h1,Option.getD_some]
   rw [← e] at h
   obtain ⟨h2,h3⟩ := znm r (k + 1) τ' hr' hl' h
   refine ⟨h2,fun j o' hj ho' => ?_⟩
   rcases Nat.lt_or_ge k j with h' | h'
   ·exact h3 j o' h' ho'
   ·obtain rfl : j = k := by omega
    rw [ho] at ho'; injection ho' with ho'; subst ho'
    rw [h1,e]
  ·cases h
theorem zxl {P : Program} {T : zab} (hm : P.follows .mixedOrders = true) (hT : TOk P T) {S : zae} {SB : zgi} (hS : Fns P S) (hSB : zfw P S SB) {call : zcp} (hcall : zpk P call) {q : Nat → Bool} {l : List Oper} (hd : zhu (fun i => zcm T (q i)) l = true) {Z : Nat} {w0 : World} {E : Nat → Prop} {τ τ' : CS} {a : Act} {w : World} {loc : Loc} {id : Nat}
  (h : zfj T SB call l q 0 l τ = some τ') (hl : LowC τ.H τ.nx) (hz : τ'.nx ≤ Z) (hr : RelT Z w0 E loc τ a w) :
  (Code.region id l.toArray true).wp P (fun e a' w' => e = .normal ∧ ∃ loc',RelT Z w0 E loc' τ' a' w' ∧ Tn w loc τ.nx τ'.nx w' loc') a w := by
 obtain ⟨hend,hst⟩ := znm (T := T) (SB := SB) (call := call) (ops := l) (q := q) (τ0 := τ) l 0 τ' (fun j => by rw [Nat.zero_add]) (Nat.zero_add _) h
 generalize hc : zpr (fun i => zli T SB call l (q i)) l τ = c at hend hst
 have h0 : c 0 = τ := by rw [← hc]; rfl
 have hst : ∀ j o,l[j]? = some o → zli T SB call l (q j) (c j) o = some (c (j + 1)) := fun j o ho => hst j o (Nat.zero_le _) ho
 have hsteps : ∀ j : Nat,∃ x,∀ o,l[j]? = some o → StepOk P T l (q j) (c j) o x (c (j + 1)) := by
  intro j
  cases hj : l[j]? with
  | none => exact ⟨.junk,fun o ho => by cases ho⟩
  | some o =>
   obtain ⟨x,hx⟩ := zxe hT hS hSB hcall (hst j o hj)
   exact ⟨x,fun o' ho' => by injection ho' with ho'; subst ho'; exact hx⟩
 obtain ⟨val,hval⟩ : ∃ val : Nat → AV,∀ j o,l[j]? = some o → StepOk P T l (q j) (c j) o (val j) (c (j + 1)) := ⟨fun j => Classical.choose (hsteps j),fun j o ho => Classical.choose_spec (hsteps j) o ho⟩
 have hpure : ∀ j,j ≤ l.length → PureOk τ (c j) := by
  intro j
  induction j with
  | zero => intro _; rw [h0]; exact .refl _
  | succ j ih => intro hj; exact (ih (by omega)).trans (hval j _ (zez (by omega))).pureOk
 have hn : ∀ j,j ≤ l.length → (c j).n = τ.n := fun j hj => (hpure j hj).n
 have ht : Text1 P l (fun j => (c j).nx) (fun j => (toS (c j).n (c j).sl,toH (c j).H)) val (fun i => match l[i]? with | some o => zcm T (q i) o.op | none => 0) := by
  refine ⟨fun i hi => (hval i _ (zez hi)).mono,fun i hi => by simp only [zbs]; rw [hn i hi,hn 0 (Nat.zero_le _)],fun i o ho t => ?_,fun i o ho id b hb => ?_,fun i o ho hk id hid => ?_,fun i o ho hk id => ?_,fun i => ?_,fun id b hb => ?_,fun i o ho => ?_⟩
  ·have := (hval i o ho).slot t
   rw [hn i (Nat.le_of_lt (zbo ho))] at this
   simp only [zbs]
   rw [hn 0 (Nat.zero_le _)]
   rw [this]
   split
   ·rfl
   ·rw [hn i (Nat.le_of_lt (zbo ho))]
  ·simp only [zak] at hb ⊢
   exact (hval i o ho).new id b hb
  ·simp only [ho] at hk
   simp only [zak]
   exact (hval i o ho).keep ((hpure i (Nat.le_of_lt (zbo ho))).low hl) hk id hid
  ·simp only [ho] at hk
   simp only [zak]
   exact (hval i o ho).same hk id
  ·cases hi : l[i]? with
   | none => simp
   | some o =>
    simp only
    unfold zcm
    split
    ·split
     ·cases q i <;> simp
     ·exact zey T _
    ·exact zey T _
  ·simp only [zak] at hb
   rw [h0] at hb ⊢
   exact hl id b hb
  ·intro w0 E w loc a next Q hsz hlook hh he hfree hcb
   simp only [ho] at hh hcb
   have hs := hval i o ho
   have hlow := (hpure i (Nat.le_of_lt (zbo ho))).low hl
   unfold wpOp
   have : l.toArray[i]? = some o := by simpa using ho
   rw [this]
   simp only
   have hsz' : a.tmps.size = (c i).n := by
    rw [hn i (Nat.le_of_lt (zbo ho)),hsz]; simp only [zbs]; rw [hn 0 (Nat.zero_le _)]
   have := hs.sem hlow w0 E w loc a next Q hsz' hlook hh he hfree hcb
   split
   ·rename_i hw; rw [if_pos hw] at this; exact .inl this
   ·rename_i hw; rw [if_neg hw] at this; exact this
 have := ypl (P := P) (N := fun j => (c j).nx) (id := id) hm (yku hd) ht (Z := Z) (w0 := w0) (E := E) (a := a) (w := w) (loc := loc) (by rw [hend]; exact hz) (by rw [h0]; exact hr)
 refine wp_mono this ?_
 rintro e a' w' ⟨he,loc',h1,h2⟩
 simp only [hend,h0] at h1 h2
 exact ⟨he,loc',h1,h2⟩
end Ax
end Go.Proofs.Ytffdpbbbdmmdlaa
namespace Go.Proofs.Ytffdpbbbdmmdlaa
namespace Ax
open Go.RowKit
theorem zlr {f : CS → Option (Exit × CS)} (hf : ∀ τ e τ',f τ = some (e,τ') → PureOk τ τ') : ∀ (k : Nat) (τ : CS) (e : Exit) (τ' : CS),zxv f k τ = some (e,τ') → PureOk τ τ'
 | 0,τ,e,τ',h => by cases h
 | k + 1,τ,e,τ',h => by
  unfold zxv at h
  split at h
  ·rename_i τ1 h1; exact (hf _ _ _ h1).trans (zlr hf k τ1 e τ' h)
  ·rename_i id τ1 h1; injection h with h; injection h with h2 h3; subst h3; exact hf _ _ _ h1
  ·rename_i τ1 h1; injection h with h; injection h with h2 h3; subst h3; exact hf _ _ _ h1
  ·cases h
section
variable {P : Program} {T : zab} (hT : TOk P T) {S : zae} {SB : zgi} (hS : Fns P S) (hSB : zfw P S SB) {call : zcp} (hcall : zpk P call)
include hT hS hSB hcall
theorem zkg : ∀ (c : Code) (τ : CS) (e : Exit) (τ' : CS),runC T SB call c τ = some (e,τ') → PureOk τ τ' := by
 intro c
 induction c with
 | skip => intro τ e τ' h; injection h with h; injection h with h1 h2; subst h2; exact .refl _
 | label l => intro τ e τ' h; injection h with h; injection h with h1 h2; subst h2; exact .refl _
 | exit id => intro τ e τ' h; injection h with h; injection h with h1 h2; subst h2; exact .refl _
 | ret => intro τ e τ' h; injection h with h; injection h with h1 h2; subst h2; exact .refl _
 | region id ops draw =>
  intro τ e τ' h
  have key : ∀ q,(match zfj T SB call ops.toList q 0 ops.toList τ with | some τ => some (Exit.normal,τ) | none => none) = some (e,τ') → PureOk τ τ' := by
   intro q h
   split at h
   ·rename_i τ1 h1; injection h with h; injection h with h2 h3; subst h3; exact zjc hT hS hSB hcall _ _ _ _ h1
   ·cases h
  unfold runC at h
  cases draw with
  | false => exact key _ h
  | true =>
   simp only [cond_true] at h
   cases h1 : zhu (fun i => zcm T ((zmg T ops.toList).getD i false)) ops.toList with
   | true => rw [h1] at h; exact key _ h
   | false => rw [h1] at h; cases h
 | seq a b iha ihb =>
  intro τ e τ' h
  unfold runC at h
  split at h
  ·rename_i τ1 h1; exact (iha _ _ _ h1).trans (ihb _ _ _ h)
  ·rename_i id τ1 h1; injection h with h; injection h with h2 h3; subst h3; exact iha _ _ _ h1
  ·rename_i τ1 h1; injection h with h; injection h with h2 h3; subst h3; exact iha _ _ _ h1
  ·cases h
 | cond c a b iha ihb =>
  intro τ e τ' h
  unfold runC at h
  split at h
  ·exact iha _ _ _ h
  ·exact ihb _ _ _ h
  ·cases h
 | block id c ih =>
  intro τ e τ' h
  unfold runC at h
  split at h
  ·rename_i id' τ1 h1
   split at h
   ·injection h with h; injection h with h2 h3; subst h3; exact ih _ _ _ h1
   ·injection h with h; injection h with h2 h3; subst h3; exact ih _ _ _ h1
  ·rename_i τ1 h1; injection h with h; injection h with h2 h3; subst h3; exact ih _ _ _ h1
  ·rename_i τ1 h1; injection h with h; injection h with h2 h3; subst h3; exact ih _ _ _ h1
  ·cases h
 | loop c ih =>
  intro τ e τ' h
  unfold runC at h
  exact zlr ih _ _ _ _ h
 | _ => intro τ e τ' h; cases h
def yqy (Z : Nat) (w0 : World) (E : Nat → Prop) (w : World) (loc : Loc) (nm : Nat) (e : Exit) (τ' : CS) : Exit → Act → World → Prop :=
 fun e' a' w' => e' = e ∧ ∃ loc',RelT Z w0 E loc' τ' a' w' ∧ Tn w loc nm τ'.nx w' loc'
theorem yna (hm : P.follows .mixedOrders = true) {Z : Nat} {w0 : World} {E : Nat → Prop} : ∀ (c : Code) (τ : CS) (e : Exit) (τ' : CS) (a : Act) (w : World) (loc : Loc),runC T SB call c τ = some (e,τ') → LowC τ.H τ.nx → τ'.nx ≤ Z → RelT Z w0 E loc τ a w →
  c.wp P (yqy Z w0 E w loc τ.nx e τ') a w := by
 intro c
 induction c with
 | skip => intro τ e τ' a w loc h hl hz hr; injection h with h; injection h with h1 h2; subst h1 h2; exact wp_skip ⟨rfl,loc,hr,Tn.refl _ _ _ _⟩
 | label l => intro τ e τ' a w loc h hl hz hr; injection h with h; injection h with h1 h2; subst h1 h2; exact wp_label ⟨rfl,loc,hr,Tn.refl _ _ _ _⟩
 | exit id => intro τ e τ' a w loc h hl hz hr; injection h with h; injection h with h1 h2; subst h1 h2; exact wp_exit ⟨rfl,loc,hr,Tn.refl _ _ _ _⟩
 | ret => intro τ e τ' a w loc h hl hz hr; injection h with h; injection h with h1 h2; subst h1 h2; exact wp_ret ⟨rfl,loc,hr,Tn.refl _ _ _ _⟩
 | region id ops draw =>
  intro τ e τ' a w loc h hl hz hr
  unfold runC at h
  cases draw with
  | false =>
   simp only [cond_false] at h
   split at h
   ·rename_i τ1 h1
    injection h with h; injection h with h2 h3; subst h2 h3
    exact wp_region_list (zqf hT hS hSB hcall _ _ _ _ a w loc h1 hl hz hr fun a' w' loc' h4 h5 => ⟨rfl,loc',h4,h5⟩)
   ·cases h
  | true =>
   simp only [cond_true] at h
   cases hd : zhu (fun i => zcm T ((zmg T ops.toList).getD i false)) ops.toList with
   | false => rw [hd] at h; cases h
   | true =>
    rw [hd,cond_true] at h
    split at h
    ·rename_i τ1 h1
     injection h with h; injection h with h2 h3; subst h2 h3
     have := zxl (id := id) hm hT hS hSB hcall (q := fun i => (zmg T ops.toList).getD i false) hd h1 hl hz hr
     exact this
    ·cases h
 | seq x y ihx ihy =>
  intro τ e τ' a w loc h hl hz hr
  unfold runC at h
  split at h
  ·rename_i τ1 h1
   have hp1 := zkg hT hS hSB hcall _ _ _ _ h1
   have hp2 := zkg hT hS hSB hcall _ _ _ _ h
   refine wp_seq (wp_mono (ihx _ _ _ a w loc h1 hl (Nat.le_trans hp2.mono hz) hr) ?_)
   rintro e' a' w' ⟨rfl,loc',h2,h3⟩
   refine wp_mono (ihy _ _ _ a' w' loc' h (hp1.low hl) hz h2) ?_
   rintro e' a2 w2 ⟨rfl,loc2,h4,h5⟩
   exact ⟨rfl,loc2,h4,h3.trans h5 hp1.mono hp2.mono⟩
  ·rename_i id τ1 h1
   injection h with h; injection h with h2 h3; subst h2 h3
   refine wp_seq (wp_mono (ihx _ _ _ a w loc h1 hl hz hr) ?_)
   rintro e' a' w' ⟨rfl,loc',h2,h3⟩
   exact ⟨rfl,loc',h2,h3⟩
  ·rename_i τ1 h1
   injection h with h; injection h with h2 h3; subst h2 h3
   refine wp_seq (wp_mono (ihx _ _ _ a w loc h1 hl hz hr) ?_)
   rintro e' a' w' ⟨rfl,loc',h2,h3⟩
   exact ⟨rfl,loc',h2,h3⟩
  ·cases h
 | cond c x y ihx ihy =>
  intro τ e τ' a w loc h hl hz hr
  have hv := ev_R hr.slots c
  rw [zfp] at hv
  unfold runC at h
  split at h
  ·rename_i hc
   rw [hc] at hv
   exact wp_cond_true hv.wv (ihx _ _ _ a w loc h hl hz hr)
  ·rename_i hc
   rw [hc] at hv
   exact wp_cond_false hv.wv (ihy _ _ _ a w loc h hl hz hr)
  ·cases h
 | block id c ih =>
  intro τ e τ' a w loc h hl hz hr
  unfold runC at h
  split at h
  ·rename_i id' τ1 h1
   split at h
   ·rename_i he
    injection h with h; injection h with h2 h3; subst h2 h3
    refine wp_block (wp_mono (ih _ _ _ a w loc h1 hl hz hr) ?_)
    rintro e' a' w' ⟨rfl,loc',h2,h3⟩
    simp only [Exit.inBlock]
    rw [if_pos he]
    exact ⟨rfl,loc',h2,h3⟩
   ·rename_i he
    injection h with h; injection h with h2 h3; subst h2 h3
    refine wp_block (wp_mono (ih _ _ _ a w loc h1 hl hz hr) ?_)
    rintro e' a' w' ⟨rfl,loc',h2,h3⟩
    simp only [Exit.inBlock]
    rw [if_neg he]
    exact ⟨rfl,loc',h2,h3⟩
  ·rename_i τ1 h1
   injection h with h; injection h with h2 h3; subst h2 h3
   refine wp_block (wp_mono (ih _ _ _ a w loc h1 hl hz hr) ?_)
   rintro e' a' w' ⟨rfl,loc',h2,h3⟩
   exact ⟨rfl,loc',h2,h3⟩
  ·rename_i τ1 h1
   injection h with h; injection h with h2 h3; subst h2 h3
   refine wp_block (wp_mono (ih _ _ _ a w loc h1 hl hz hr) ?_)
   rintro e' a' w' ⟨rfl,loc',h2,h3⟩
   exact ⟨rfl,loc',h2,h3⟩
  ·cases h
 | loop c ih =>
  intro τ e τ' a w loc h hl hz hr
  unfold runC at h
  have hcp := zkg hT hS hSB hcall c
  let p : Act → World → Nat → Prop := fun a1 w1 k => ∃ τ1 loc1,zxv (runC T SB call c) k τ1 = some (e,τ') ∧ LowC τ1.H τ1.nx ∧ RelT Z w0 E loc1 τ1 a1 w1 ∧ Tn w loc τ.nx τ1.nx w1 loc1 ∧ τ.nx ≤ τ1.nx
  have hleast : ∀ a w,(∃ n,p a w n) → ∃ m,p a w m ∧ ∀ k,p a w k → m ≤ k := fun a w ⟨n,hn⟩ => let ⟨m,h1,_,h3⟩ := ykl n hn; ⟨m,h1,h3⟩
  open Classical in
  let μ : Act → World → Nat := fun a w => if h : ∃ n,p a w n then Classical.choose (hleast a w h) else 0
  refine wp_loop (fun a w => ∃ n,p a w n) μ ⟨_,τ,loc,h,hl,hr,Tn.refl _ _ _ _,Nat.le_refl _⟩ ?_
  intro a1 w1 hex
  have hμ : μ a1 w1 = Classical.choose (hleast a1 w1 hex) := dif_pos hex
  obtain ⟨hp,hmin⟩ := Classical.choose_spec (hleast a1 w1 hex)
  rw [← hμ] at hp hmin
  obtain ⟨τ1,loc1,h1,h2,h3,h4,h5⟩ := hp
  obtain ⟨k,hk⟩ : ∃ k,μ a1 w1 = k := ⟨_,rfl⟩
  rw [hk] at h1 hmin ⊢
  cases k with
  | zero => cases h1
  | succ k =>
   unfold zxv at h1
   split at h1
   ·rename_i τ2 h6
    have hp1 := hcp _ _ _ h6
    have hp2 := zlr hcp _ _ _ _ h1
    refine wp_mono (ih _ _ _ a1 w1 loc1 h6 h2 (Nat.le_trans hp2.mono hz) h3) ?_
    rintro e' a2 w2 ⟨rfl,loc2,h7,h8⟩
    have hp' : p a2 w2 k := ⟨τ2,loc2,h1,hp1.low h2,h7,h4.trans h8 h5 hp1.mono,Nat.le_trans h5 hp1.mono⟩
    refine ⟨⟨k,hp'⟩,?_⟩
    have hμ' : μ a2 w2 = Classical.choose (hleast a2 w2 ⟨k,hp'⟩) := dif_pos ⟨k,hp'⟩
    have := (Classical.choose_spec (hleast a2 w2 ⟨k,hp'⟩)).2 k hp'
    rw [← hμ'] at this
    omega
   ·rename_i id τ2 h6
    injection h1 with h1; injection h1 with h9 h10; subst h9 h10
    refine wp_mono (ih _ _ _ a1 w1 loc1 h6 h2 hz h3) ?_
    rintro e' a2 w2 ⟨rfl,loc2,h7,h8⟩
    exact ⟨rfl,loc2,h7,h4.trans h8 h5 (hcp _ _ _ h6).mono⟩
   ·rename_i τ2 h6
    injection h1 with h1; injection h1 with h9 h10; subst h9 h10
    refine wp_mono (ih _ _ _ a1 w1 loc1 h6 h2 hz h3) ?_
    rintro e' a2 w2 ⟨rfl,loc2,h7,h8⟩
    exact ⟨rfl,loc2,h7,h4.trans h8 h5 (hcp _ _ _ h6).mono⟩
   ·cases h1
 | _ => intro τ e τ' a w loc h hl hz hr; cases h
end
theorem zor {T : zab} {τ : CS} : ∀ {rs : List ResultVar} {l : List AV},zos T τ rs = some l → (rvals T (toH τ.H) (toS τ.n τ.sl) rs).1 ∧ (rvals T (toH τ.H) (toS τ.n τ.sl) rs).2 = l
 | [],l,h => by injection h with h; exact ⟨trivial,h⟩
 | .tmp t :: r,l,h => by
  unfold zos at h
  split at h
  ·rename_i l' h1
   injection h with h; subst h
   obtain ⟨a,b⟩ := zor h1
   refine ⟨a,?_⟩
   have := zfp τ.n τ.sl (.tmp t)
   simp only [rvals,b]
   rw [← this]; rfl
  ·cases h
 | .cell x t :: r,l,h => by
  unfold zos at h
  split at h
  ·rename_i l' h1
   split at h
   ·rename_i y us h2
    injection h with h; subst h
    obtain ⟨a,b⟩ := zor h1
    obtain ⟨c,d,_⟩ := ybd (zak τ.H) _ _ h2
    have := zfp τ.n τ.sl (.tmp x)
    simp only [ev] at this
    rw [← this] at c d
    exact ⟨⟨c,a⟩,by simp only [rvals,b,d]⟩
   ·cases h
  ·cases h
theorem yae {β : Type} : ∀ {xs : List AV} {k : Nat} {t : Tr AV} {κ : Tr AV → Option β} {z : β},ygf xs k t κ = some z → ∃ t',κ t' = some z ∧ ∀ i,sget t' i = if k ≤ i ∧ i < k + xs.length then xs.getD (i - k) .junk else sget t i
 | [],k,t,κ,z,h => ⟨t,h,fun i => by rw [if_neg (by simp only [List.length_nil]; omega)]⟩
 | x :: r,k,t,κ,z,h => by
  unfold ygf at h
  rw [zgb] at h
  cases hk : Nat.blt k most with
  | false => rw [hk] at h; cases h
  | true =>
   rw [hk,cond_true,zet] at h
   obtain ⟨t',h1,h2⟩ := yae (xs := r) h
   refine ⟨t',h1,fun i => ?_⟩
   rw [h2 i]
   have hm := zsg hk
   by_cases h3 : k + 1 ≤ i ∧ i < k + 1 + r.length
   ·rw [if_pos h3,if_pos ⟨by omega,by simp only [List.length_cons]; omega⟩]
    have : i - k = (i - (k + 1)) + 1 := by omega
    rw [this]; simp
   ·rw [if_neg h3]
    by_cases h4 : i = k
    ·subst h4
     rw [if_pos ⟨Nat.le_refl _,by simp only [List.length_cons]; omega⟩]
     simp only [Nat.sub_self,sget]
     rw [zhr _ _ _ _ hm,if_pos rfl]
     simp
    ·rw [if_neg (by simp only [List.length_cons]; omega)]
     simp only [sget]
     rw [zhr _ _ _ _ hm,if_neg h4]
theorem yaz {P : Program} {T : zab} (hm : P.follows .mixedOrders = true) (hT : TOk P T) {S : zae} {SB : zgi} (hS : Fns P S) (hSB : zfw P S SB) : ∀ k,zpk P (ydr P T SB k)
 | 0 => by intro g args H nx fl x H' nz h; cases h
 | k + 1 => by
  intro g args H nx fl x H' nz h
  have ih := yaz hm hT hS hSB k
  unfold ydr at h
  split at h
  ·rename_i fn hfn
   split at h
   ·rename_i c hbody
    cases hname : (fn.name == "runtime.NumGoroutine") with
    | true => rw [hname] at h; cases h
    | false =>
     rw [hname,cond_false] at h
     cases hle : Nat.ble args.length fn.ntmps with
     | false => rw [hle] at h; cases h
     | true =>
      rw [hle,cond_true] at h
      have hle := Nat.le_of_ble_eq_true hle
      obtain ⟨sl,h1,hsl⟩ := yae h
      split at h1
      ·rename_i e τ hrun
       cases he : ynh e with
       | false => rw [he] at h1; cases h1
       | true =>
        rw [he,cond_true] at h1
        split at h1
        ·rename_i l hl
         injection h1 with h1; injection h1 with hx h1; injection h1 with hH hnz
         subst hx hH hnz
         have hp := zkg hT hS hSB ih c _ _ _ hrun
         refine ⟨hp.mono,hp.new,⟨fn,hfn,by rw [hbody]; rfl,hname⟩,hp.old,?_⟩
         intro hlow w0 E w loc vs hlen hR hh henv hfree
         refine calls_of_wp hfn hbody ?_
         have hvs : vs.length ≤ fn.ntmps := by omega
         have hrel : RelT τ.nx w0 E loc ⟨sl,fn.ntmps,H,nx,fl⟩ { tmps := vs.toArray ++ Array.replicate (fn.ntmps - vs.toArray.size) undef,defers := [] } w := by
          refine ⟨by rw [zbs]; simp; omega,fun t => ?_,hh,henv,hfree,rfl⟩
          rw [zmq]
          by_cases ht : t < fn.ntmps
          ·rw [if_pos ht,hsl t]
           by_cases ht2 : t < args.length
           ·rw [if_pos ⟨Nat.zero_le _,by omega⟩]
            have e1 : args.getD (t - 0) .junk = args[t] := by simp [ht2]
            have e2 : (vs.toArray ++ Array.replicate (fn.ntmps - vs.toArray.size) undef).getD t undef = vs[t]'(by omega) := by
             have : t < vs.length := by omega
             simp [Array.getD_eq_getD_getElem?,Array.getElem?_append,this]
            rw [e1,e2]
            exact hR t ht2 _
           ·rw [if_neg (by omega)]
            exact .junk _
          ·rw [if_neg ht]; exact .junk _
         refine wp_mono (yna hT hS hSB ih hm c _ _ _ _ w loc hrun hlow (Nat.le_refl _) hrel) ?_
         rintro e' a' w' ⟨rfl,loc',h3,h4⟩
         obtain ⟨hr1,hr2⟩ := zor hl
         have hn := hp.n
         obtain ⟨v,hv,hvR⟩ := zkh (P := P) (fn := fn) hT h3.heap h3.slots hr1
         rw [hr2] at hvR
         have hpost : PostW w0 E w loc nx τ.nx (rone l) (toH τ.H) v w' loc' := ⟨hvR,h3.heap,h3.env,h4⟩
         cases e' with
         | normal => exact ⟨h3.defers,v,hv,v,loc',rfl,hpost⟩
         | ret => exact ⟨h3.defers,v,hv,v,loc',rfl,hpost⟩
         | _ => cases he
        ·cases h1
      ·cases h1
   ·cases h
  ·cases h
end Ax
end Go.Proofs.Ytffdpbbbdmmdlaa
namespace Go.Proofs.Ytffdpbbbdmmdlaa
namespace Ax
structure Wr (α : Type) where
 v : α
abbrev CopF := Nat → (Operand → AV) → (Nat → Option Blk) → Option (AV × Us)
def zwf (T : zab) (b : Builtin) (args : List Operand) (ts : List TypeId) : Wr CopF :=
 match b with
 | .len => match args,ts with
  | [x],[t] => ⟨fun _ e lk => cLen T t (e x) lk⟩
  | _,_ => ⟨fun _ _ _ => none⟩
 | .min => ⟨fun _ e _ => cMin (args.map e)⟩
 | .max => ⟨fun _ e _ => cMax (args.map e)⟩
 | .append => match args with
  | [d,x] => ⟨fun nm e lk => ztc T nm ts (e d) (e x) lk⟩
  | _ => ⟨fun _ _ _ => none⟩
 | .delete => match args,ts with
  | [d,x],t :: _ => ⟨fun _ e lk => zta T t (e d) (e x) lk⟩
  | _,_ => ⟨fun _ _ _ => none⟩
 | .clear => match args,ts with
  | [x],[t] => ⟨fun _ e lk => ybj T t (e x) lk⟩
  | _,_ => ⟨fun _ _ _ => none⟩
 | .copy => match args with
  | [d,x] => ⟨fun _ e lk => ylv T ts (e d) (e x) lk⟩
  | _ => ⟨fun _ _ _ => none⟩
 | _ => ⟨fun _ _ _ => none⟩
theorem zwe (T : zab) (nm : Nat) (sl : List AV) (b : Builtin) (args : List Operand) (ts : List TypeId) (e : Operand → AV) (lk : Nat → Option Blk) : (zwf T b args ts).v nm e lk = ztb T nm sl b args ts e lk := by
 cases b <;> first | rfl | (rcases args with _ | ⟨x,_ | ⟨y,_ | ⟨z,r⟩⟩⟩ <;> rcases ts with _ | ⟨t,_ | ⟨u,v⟩⟩ <;> rfl)
def copS (T : zab) (op : Op) : Wr CopF :=
 match op with
 | .move x => ⟨fun _ e _ => some (e x,[])⟩
 | .assign x => ⟨fun _ e _ => some (e x,[])⟩
 | .pick c a b => ⟨fun _ e _ => ydt (e c) (e a) (e b)⟩
 | .alloc t => ⟨fun nm _ _ => ybl T nm t⟩
 | .box t x => ⟨fun nm e _ => cBox T nm t (e x)⟩
 | .build t ps => ⟨fun _ e _ => ybk T t (ps.toList.map fun p => (p.1,e p.2))⟩
 | .buildSlice t n ps => ⟨fun nm e _ => zgx T nm t n (ps.toList.map fun p => (p.1,e p.2))⟩
 | .load t a => ⟨fun _ e lk => yio T t (e a) lk⟩
 | .store t a x => ⟨fun _ e lk => yba T t (e a) (e x) lk⟩
 | .nilCheck x => ⟨fun _ e lk => cNil (e x) lk⟩
 | .binOp op t x y _ => ⟨fun _ e lk => cBin T op t (e x) (e y) lk⟩
 | .unOp op _ x => ⟨fun _ e _ => cUn op (e x)⟩
 | .convert s d x => ⟨fun nm e lk => bif coldStr T d && ykq (e x) then none else ylx T s d nm (e x) lk⟩
 | .makeSlice t l c => ⟨fun nm e _ => ylt T nm t (e l) (e c)⟩
 | .slice t x lo hi mx => ⟨fun _ e lk => bif mx.isSome && hi.isNone then none else ybb T t (e x) (lo.map e) (hi.map e) (mx.map e) lk⟩
 | .fieldAddr s x f => ⟨fun _ e lk => zil T s (e x) f lk⟩
 | .field t x f => ⟨fun _ e _ => ybg T t (e x) f⟩
 | .indexAddr t x i => ⟨fun _ e lk => zik T t (e x) (e i) lk⟩
 | .index t x i => ⟨fun _ e _ => ybf T t (e x) (e i)⟩
 | .extract x i => ⟨fun _ e _ => zmy (e x) i⟩
 | .makeFunc fn first caps => ⟨fun _ e _ => cFn fn first.toList (caps.toList.map e)⟩
 | .range t x => ⟨fun nm e lk => ybc T nm t (e x) lk⟩
 | .next x b => ⟨fun _ e lk => ylr (e x) b lk⟩
 | .makeMap _ r => ⟨fun nm _ _ => zsw nm r⟩
 | .lookup t x k ok => ⟨fun _ e lk => zsx T t (e x) (e k) ok lk⟩
 | .mapUpdate t x k v => ⟨fun _ e lk => zsv T t (e x) (e k) (e v) lk⟩
 | .entry x => ⟨fun _ e lk => ybi (e x) lk⟩
 | .call c => match c.callee with
  | .builtin b => zwf T b c.args.toList c.argTypes.toList
  | _ => ⟨fun _ _ _ => none⟩
 | _ => ⟨fun _ _ _ => none⟩
theorem ynq (T : zab) (nm : Nat) (e : Operand → AV) (lk : Nat → Option Blk) (op : Op) : (copS T op).v nm e lk = cop T nm e lk op := by
 cases op with
 | call c =>
  simp only [copS,cop]
  cases c.callee with
  | builtin b => exact zwe T nm [] b _ _ e lk
  | _ => rfl
 | _ => rfl
def spS (op : Op) : Bool :=
 match op with
 | .binOp _ _ _ (.const (.slice none 0 0)) _ => true
 | .call c => match c.callee with
  | .builtin .append => true
  | _ => false
 | _ => false
theorem yme {T : zab} {e : Operand → AV} {lk : Nat → Option Blk} {op : Op} (h : spS op = false) : cSp T e lk op = none ∧ znd e lk op = none := by
 constructor
 ·unfold cSp
  split
  ·rename_i b t x yt; simp [spS] at h
  ·rfl
 ·unfold znd
  split
  ·rename_i c
   split
   ·rename_i hc; simp [spS,hc] at h
   ·rfl
  ·rfl
def yhg {β : Type} (x : AV) (κ : AV → β) : β := match x with
 | .w v => yag v fun v => κ (.w v)
 | .ms id s off len => zeb off fun off => zeb len fun len => κ (.ms id s off len)
 | .rf id s i f => zeb i fun i => zeb f fun f => κ (.rf id s i f)
 | .agg xs => zha zog xs fun xs => κ (.agg xs)
 | .str bs => zis bs fun bs => κ (.str bs)
 | .tup xs => zha zku xs fun xs => κ (.tup xs)
 | .fn f xs => zha zog xs fun xs => κ (.fn f xs)
 | x => yah x κ
theorem yhf {β : Type} (x : AV) (κ : AV → β) : yhg x κ = κ x := by cases x <;> simp only [yhg,zvd,zea,zhs,zkt,zec zof,zec zgb]
section
variable (T : zab) (SB : zgi)
abbrev ValF := zcp → CS → Option (AV × Tr Blk × Nat)
noncomputable def zzw (op : Op) : Wr ValF :=
 match copS T op with
 | ⟨f⟩ => match spS op with
  | true => ⟨fun _ τ => zje T τ op⟩
  | false => ⟨fun _ τ => match f τ.nx (evC τ.n τ.sl) τ.H.get with
   | some (x,us) => appF τ.fl us τ.H fun H => zeb (τ.nx + 8) fun nz => some (x,H,nz)
   | none => none⟩
noncomputable def valS (q : Bool) (op : Op) : Wr ValF :=
 match op with
 | .call c => match c.callee with
  | .value f => ⟨fun call τ => zua T SB call τ q (.call c)⟩
  | _ => zzw T (.call c)
 | op => zzw T op
theorem ztx (call : zcp) (τ : CS) (op : Op) : (zzw T op).v call τ = zje T τ op := by
 unfold zzw
 have hc := ynq T τ.nx (evC τ.n τ.sl) τ.H.get op
 cases hf : copS T op with
 | mk f =>
  rw [hf] at hc
  cases hs : spS op with
  | true => rfl
  | false =>
   simp only
   unfold zje
   rw [(yme (T := T) hs).1,(yme (T := T) hs).2,← hc]
   try rfl
theorem ymv (call : zcp) (q : Bool) (τ : CS) (op : Op) : (valS T SB q op).v call τ = zua T SB call τ q op := by
 cases op with
 | call c =>
  simp only [valS]
  cases hc : c.callee with
  | value f => rfl
  | _ => simp only [zua,hc]; exact ztx T call τ (.call c)
 | _ => simp only [valS,zua]; exact ztx T call τ _
abbrev yog := zcp → CS → Option CS
noncomputable def zuc (q : Bool) (o : Oper) : Wr yog :=
 match valS T SB q o.op with
 | ⟨f⟩ => match o.dst with
  | none => ⟨fun call τ => match f call τ with
   | some (x,H,nz) => some ⟨τ.sl,τ.n,H,nz,τ.fl⟩
   | none => none⟩
  | some d => ⟨fun call τ => match f call τ with
   | some (x,H,nz) => yhg x fun x => bif Nat.blt d τ.n && Nat.blt d most then Tr.setK τ.sl d (some x) fun sl => some ⟨sl,τ.n,H,nz,τ.fl⟩ else none
   | none => none⟩
theorem zub (call : zcp) (q : Bool) (τ : CS) (o : Oper) : (zuc T SB q o).v call τ = ycr T SB call τ q o := by
 unfold zuc ycr
 have hv := ymv T SB call q τ o.op
 cases hf : valS T SB q o.op with
 | mk f =>
  rw [hf] at hv
  simp only at hv
  rw [← hv]
  cases hd : o.dst with
  | none =>
   simp only
   cases f call τ with
   | none => rfl
   | some r => obtain ⟨x,H,nz⟩ := r; simp only [zkt,putK]
  | some d =>
   simp only
   cases f call τ with
   | none => rfl
   | some r => obtain ⟨x,H,nz⟩ := r; simp only [zkt,yhf,putK]
noncomputable def yjv (ops : List Oper) (q : Bool) (o : Oper) : Wr yog :=
 match o.guard with
 | none => zuc T SB q o
 | some (j,want) => match guardSlot ops j with
  | none => ⟨fun _ _ => none⟩
  | some d => match zuc T SB q o with
   | ⟨f⟩ => ⟨fun call τ => match evC τ.n τ.sl (.tmp d) with
    | .w (.bool b) => bif b == want then f call τ else zql τ o
    | .tup [] => zql τ o
    | _ => none⟩
theorem yju (call : zcp) (ops : List Oper) (q : Bool) (τ : CS) (o : Oper) : (yjv T SB ops q o).v call τ = zli T SB call ops q τ o := by
 unfold yjv zli
 cases hg : o.guard with
 | none => exact zub T SB call q τ o
 | some g =>
  obtain ⟨j,want⟩ := g
  simp only
  cases hs : guardSlot ops j with
  | none => rfl
  | some d =>
   simp only
   have hv := zub T SB call q τ o
   cases hf : zuc T SB q o with
   | mk f =>
    rw [hf] at hv
    simp only at hv ⊢
    rw [← hv]
    try rfl
noncomputable def zhk (ops : List Oper) (q : Nat → Bool) : Nat → List Oper → Wr yog
 | _,[] => ⟨fun _ τ => some τ⟩
 | k,o :: r => match yjv T SB ops (q k) o,zhk ops q (k + 1) r with
  | ⟨f⟩,⟨g⟩ => ⟨fun call τ => match f call τ with
   | some τ => g call τ
   | none => none⟩
theorem zqg (call : zcp) (ops : List Oper) (q : Nat → Bool) : ∀ (k : Nat) (l : List Oper) (τ : CS),(zhk T SB ops q k l).v call τ = zfj T SB call ops q k l τ
 | _,[],τ => rfl
 | k,o :: r,τ => by
  unfold zhk zfj
  have h1 := fun τ => yju T SB call ops (q k) τ o
  have h2 := fun τ => zqg call ops q (k + 1) r τ
  cases hf : yjv T SB ops (q k) o with
  | mk f =>
   cases hg : zhk T SB ops q (k + 1) r with
   | mk g =>
    rw [hf] at h1
    rw [hg] at h2
    simp only at h1 h2 ⊢
    rw [← h1]
    cases f call τ with
    | none => rfl
    | some τ => exact h2 τ
abbrev yoo := zcp → CS → Option (Exit × CS)
noncomputable def zgd : Code → Wr yoo
 | .skip => ⟨fun _ τ => some (.normal,τ)⟩
 | .label _ => ⟨fun _ τ => some (.normal,τ)⟩
 | .region _ ops draw => match draw with
  | true => match zhu (fun i => zcm T ((zmg T ops.toList).getD i false)) ops.toList with
   | true => match zhk T SB ops.toList (fun i => (zmg T ops.toList).getD i false) 0 ops.toList with
    | ⟨f⟩ => ⟨fun call τ => match f call τ with | some τ => some (.normal,τ) | none => none⟩
   | false => ⟨fun _ _ => none⟩
  | false => match zhk T SB ops.toList (fun _ => false) 0 ops.toList with
   | ⟨f⟩ => ⟨fun call τ => match f call τ with | some τ => some (.normal,τ) | none => none⟩
 | .seq a b => match zgd a,zgd b with
  | ⟨f⟩,⟨g⟩ => ⟨fun call τ => match f call τ with
   | some (.normal,τ) => g call τ
   | some (.exit id,τ) => some (.exit id,τ)
   | some (.ret,τ) => some (.ret,τ)
   | _ => none⟩
 | .cond c a b => match zgd a,zgd b with
  | ⟨f⟩,⟨g⟩ => ⟨fun call τ => match evC τ.n τ.sl c with
   | .w (.bool true) => f call τ
   | .w (.bool false) => g call τ
   | _ => none⟩
 | .block id c => match zgd c with
  | ⟨f⟩ => ⟨fun call τ => match f call τ with
   | some (.exit id',τ) => if id' = id then some (.normal,τ) else some (.exit id',τ)
   | some (.normal,τ) => some (.normal,τ)
   | some (.ret,τ) => some (.ret,τ)
   | _ => none⟩
 | .loop c => match zgd c with
  | ⟨f⟩ => ⟨fun call τ => zxv (f call) 1000000 τ⟩
 | .exit id => ⟨fun _ τ => some (.exit id,τ)⟩
 | .ret => ⟨fun _ τ => some (.ret,τ)⟩
 | _ => ⟨fun _ _ => none⟩
theorem yll (call : zcp) : ∀ (c : Code) (τ : CS),(zgd T SB c).v call τ = runC T SB call c τ := by
 intro c
 induction c with
 | region id ops draw =>
  intro τ
  have key : ∀ q,(match zhk T SB ops.toList q 0 ops.toList with | ⟨f⟩ => (⟨fun call τ => match f call τ with | some τ => some (.normal,τ) | none => none⟩ : Wr yoo)).v call τ = (match zfj T SB call ops.toList q 0 ops.toList τ with | some τ => some (.normal,τ) | none => none) := by
   intro q
   have h := zqg T SB call ops.toList q 0 ops.toList τ
   cases hf : zhk T SB ops.toList q 0 ops.toList with
   | mk f =>
    rw [hf] at h
    simp only at h ⊢
    rw [h]
  unfold zgd runC
  cases draw with
  | false => exact key _
  | true =>
   simp only [cond_true]
   cases zhu (fun i => zcm T ((zmg T ops.toList).getD i false)) ops.toList with
   | true => exact key _
   | false => rfl
 | seq a b iha ihb =>
  intro τ
  unfold zgd runC
  cases hf : zgd T SB a with
  | mk f =>
   cases hg : zgd T SB b with
   | mk g =>
    rw [hf] at iha
    rw [hg] at ihb
    simp only at iha ihb ⊢
    rw [← iha]
    cases f call τ with
    | none => rfl
    | some r =>
     obtain ⟨e,τ'⟩ := r
     cases e <;> first | rfl | exact ihb τ'
 | cond c a b iha ihb =>
  intro τ
  unfold zgd runC
  cases hf : zgd T SB a with
  | mk f =>
   cases hg : zgd T SB b with
   | mk g =>
    rw [hf] at iha
    rw [hg] at ihb
    simp only at iha ihb ⊢
    rw [← iha,← ihb]
    try rfl
 | block id c ih =>
  intro τ
  unfold zgd runC
  cases hf : zgd T SB c with
  | mk f =>
   rw [hf] at ih
   simp only at ih ⊢
   rw [← ih]
   try rfl
 | loop c ih =>
  intro τ
  unfold zgd runC
  cases hf : zgd T SB c with
  | mk f =>
   rw [hf] at ih
   simp only at ih ⊢
   have : f call = runC T SB call c := funext ih
   rw [this]
 | _ => intro τ; rfl
end
structure FnS where
 n : Nat
 f : yoo
 rs : List ResultVar
noncomputable def funS (P : Program) (T : zab) (SB : zgi) (g : FuncId) : Option FnS :=
 match P.funcs[g]? with
 | some fn => match fn.body with
  | some c => match fn.name == "runtime.NumGoroutine" with
   | true => none
   | false => match zgd T SB c with
    | ⟨f⟩ => some ⟨fn.ntmps,f,fn.results.toList⟩
  | none => none
 | none => none
noncomputable def ylo (P : Program) (T : zab) (SB : zgi) : Nat → zcp
 | 0,_,_,_,_,_ => none
 | k + 1,g,args,H,nx,fl => match funS P T SB g with
  | some ⟨n,f,rs⟩ => bif Nat.ble args.length n then
    ygf args 0 .leaf fun sl => match f (ylo P T SB k) ⟨sl,n,H,nx,fl⟩ with
     | some (e,τ) => bif ynh e then (match zos T τ rs with
       | some l => some (rone l,τ.H,τ.nx)
       | none => none) else none
     | none => none
    else none
  | none => none
theorem yay (P : Program) (T : zab) (SB : zgi) : ∀ k,ylo P T SB k = ydr P T SB k
 | 0 => by funext g args H nx fl; rfl
 | k + 1 => by
  funext g args H nx fl
  unfold ylo ydr funS
  rw [yay P T SB k]
  cases P.funcs[g]? with
  | none => rfl
  | some fn =>
   simp only
   cases fn.body with
   | none => rfl
   | some c =>
    simp only
    cases (fn.name == "runtime.NumGoroutine") with
    | true => rfl
    | false =>
     have h := yll T SB (ydr P T SB k) c
     cases hf : zgd T SB c with
     | mk f =>
      rw [hf] at h
      simp only at h ⊢
      simp only [cond_false,h]
      try rfl
end Ax
end Go.Proofs.Ytffdpbbbdmmdlaa
namespace Go.Proofs.Ytffdpbbbdmmdlaa
namespace Ax
def opq : AV := .ms 0 1 0 0
def locD (bad : Nat → Prop) : Loc := { m := fun id => if id = 0 then .dead else .free,bad }
theorem yqz {w : World} {bad : Nat → Prop} {x v : Value} (h : R w (zap [] bad) (.w x) v) : R w (locD bad) opq v := by
 have hv := h.wv
 subst hv
 cases h with
 | w _ h1 => exact .ms 0 1 0 0 _ (by unfold Owns locD; simpa using h1)
noncomputable def zse (P : Program) (T : zab) (SB : zgi) (k : Nat) (g : FuncId) (args : List AV) : Bool :=
 match ylo P T SB k g args .leaf 8 0 with
 | some (.w (.bool true),_,_) => true
 | _ => false
theorem ztk {P : Program} {T : zab} (hm : P.follows .mixedOrders = true) (hT : TOk P T) {S : zae} {SB : zgi} (hS : Fns P S) (hSB : zfw P S SB) {k : Nat} {g : FuncId} {args : List AV} {spec : zaz}
  (hs : ∀ xs pins,(spec xs pins).p → pins = [] ∧ xs.length = args.length ∧ (spec xs pins).x = .w (.bool true) ∧ (spec xs pins).bl = [] ∧ ∀ (w : World) (bad : Nat → Prop) (j : Nat) (h : j < xs.length) (h' : j < args.length) (v : Value),R w (zap [] bad) xs[j] v → R w (locD bad) args[j] v)
  (h : zse P T SB k g args = true) : zbk P g spec := by
 unfold zse at h
 rw [yay] at h
 split at h
 ·rename_i H nz hc
  obtain ⟨_,_,_,_,h3⟩ := yaz hm hT hS hSB k _ _ _ _ _ _ _ _ hc
  intro xs pins hp _ w bad pb vs hlen hnd hbad hlies hxl hx
  obtain ⟨rfl,hxa,hx1,hbl,hR⟩ := hs xs pins hp
  obtain rfl : pb = [] := List.eq_nil_of_length_eq_zero hlen
  have hfree : ∀ id,(zap [] bad).m id = .free := fun id => by simp [zap]
  have hno : ∀ i b,(locD bad).m i ≠ .here b := fun i b h => by unfold locD at h; simp only at h; split at h <;> cases h
  have henv : Env w (· ∈ ([] : List Nat)) w (locD bad) := ⟨rfl,rfl,rfl,Nat.le_refl _,fun _ _ _ => rfl,fun i j b hi => (hno i b hi).elim,fun i b hi => (hno i b hi).elim,fun b hb => hbad b hb⟩
  refine (h3 (fun id b hb => by rw [zds] at hb; cases hb) w _ w (locD bad) vs (by omega) (fun j hj hj' => hR w bad j (by omega) hj _ (hx j (by omega) hj')) (fun id b hb => by rw [zak,zds] at hb; cases hb) henv (fun id h1 _ => by unfold locD; simp only; rw [if_neg (by omega)])).mono ?_
  rintro e w' ⟨v,loc',rfl,hq⟩
  have hv := hq.r.wv
  subst hv
  refine ⟨_,zap [] bad,rfl,?_⟩
  refine ⟨by rw [hx1]; exact .w _ rfl,rfl,(fun k hk => by rw [hbl] at hk; simp at hk),(fun k hk => by simp at hk),(fun k b _ hb => by rw [hfree] at hb; cases hb),fun k _ => hfree k,(fun i j b hi => by rw [hfree] at hi; cases hi),?_⟩
  exact ⟨hq.env.os,hq.env.tape,hq.env.output,hq.env.size,hq.env.same,fun b cur e fz hE => by simp at hE⟩
 ·cases h
end Ax
open Ax
theorem yjp {S : zae} {SB : zgi} (hS : Fns Try.prog S) (hSB : zfw Try.prog S SB) {g : FuncId} (h : zse Try.prog ty SB 60 g [] = true) : zbk Try.prog g yesS :=
 ztk mixed ty_ok hS hSB (fun xs pins hp => by
  unfold yesS at hp ⊢
  split at hp
  ·exact ⟨rfl,rfl,rfl,rfl,fun w bad j h => by simp at h⟩
  ·exact hp.elim) h
abbrev noB : zgi := fun _ => none
theorem ypc : zfw Try.prog (fun _ => none) noB := fun g h e => by cases e
theorem yop {g : FuncId} (h : zse Try.prog ty noB 60 g [] = true) : zbk Try.prog g yesS := yjp (zlo _) ypc h
end Go.Proofs.Ytffdpbbbdmmdlaa
namespace Go.Proofs.Ytffdpbbbdmmdlaa
open Ax
section
set_option maxRecDepth 100000
theorem zlz : zbk Try.prog 7 yesS := yop (by kernel_rfl)
end
theorem zxb (n P : Nat) : (tnL n P).length = n := by unfold tnL; simp
theorem zwu : ∀ (xs : List AV),(∀ x ∈ xs,∃ r : List UInt8,x = .str r ∧ r.length ≤ 9223372036854775807) → ∃ rs : List (List UInt8),xs = rs.map AV.str ∧ ∀ r ∈ rs,r.length ≤ 9223372036854775807
 | [],_ => ⟨[],rfl,by simp⟩
 | x :: xs,h => by
  obtain ⟨r,rfl,hr⟩ := h x (by simp)
  obtain ⟨rs,rfl,hrs⟩ := zwu xs (fun y hy => h y (by simp [hy]))
  refine ⟨r :: rs,rfl,fun q hq => ?_⟩
  rcases List.mem_cons.1 hq with rfl | hq
  ·exact hr
  ·exact hrs q hq
theorem zma {x : AV} (h : Arg ty 6 22 x) : ∃ (l : List (List UInt8)) (f : Bool),x = .sg 1 (l.map AV.str) f ∧ l.length ≤ 9223372036854775807 ∧ ∀ r ∈ l,r.length ≤ 9223372036854775807 := by
 obtain ⟨i,ls,hi,hs,rfl⟩ := h
 simp only [ty] at hi
 injection hi with hi
 subst hi
 simp only [zjx,ty,zix,zjj] at hs
 have hm : maxLen = 9223372036854775807 := by decide
 obtain ⟨xs,f1,rfl,hx,hxs⟩ := hs
 obtain ⟨es,rfl,he⟩ := zwu xs (fun x hxm => by
  obtain ⟨l,⟨bs,rfl,w⟩,_,rfl⟩ := hxs x hxm
  exact ⟨bs,rfl,by omega⟩)
 rw [List.length_map] at hx
 exact ⟨es,f1,rfl,by omega,he⟩
end Go.Proofs.Ytffdpbbbdmmdlaa
