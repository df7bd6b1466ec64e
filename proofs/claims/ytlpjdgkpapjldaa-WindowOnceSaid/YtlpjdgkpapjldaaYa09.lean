/- What the proofs of this seat stand on; it asks nothing. -/
import Derived.Test.YtlpjdgkpapjldaaYa08
set_option linter.unusedSimpArgs false
set_option linter.unusedVariables false
namespace Go.Proofs.Ytlpjdgkpapjldaa
open Ax
def okr (z : Int) (r : WS) : Bool := okWB z r.s r.k r.c r.t r.a r.b
def fiW (z : Int) : List WS → Int → Int
 | [],_ => -1
 | r :: rs,i => if okr z r = true then fiW z rs (i + 1) else i
def risW : List WS → Bool
 | [] => true
 | [_] => true
 | a :: b :: rs => ahB a.s a.k b.s b.k && risW (b :: rs)
def hdB (Z L M D : Int) (n : Nat) : Bool := outB Z 1 1048576 || (outB L 0 1048576 || (outB M (-1) 1099511627776 || (outB D 0 1099511627776 || decide ((256 : Int) < n))))
def chW (Z L M D : Int) (l : List WS) : Int := if hdB Z L M D l.length = true then 11 else if l.all (okr Z) = true then (if risW l = true then 0 else 16) else 11
theorem hd_cases (Z L M D : Int) (n : Nat) : (outB Z 1 1048576 = true ∧ hdB Z L M D n = true) ∨
   (outB Z 1 1048576 = false ∧ outB L 0 1048576 = true ∧ hdB Z L M D n = true) ∨
   (outB Z 1 1048576 = false ∧ outB L 0 1048576 = false ∧ outB M (-1) 1099511627776 = true ∧ hdB Z L M D n = true) ∨
   (outB Z 1 1048576 = false ∧ outB L 0 1048576 = false ∧ outB M (-1) 1099511627776 = false ∧ outB D 0 1099511627776 = true ∧ hdB Z L M D n = true) ∨
   (outB Z 1 1048576 = false ∧ outB L 0 1048576 = false ∧ outB M (-1) 1099511627776 = false ∧ outB D 0 1099511627776 = false ∧ decide ((256 : Int) < n) = true ∧ hdB Z L M D n = true) ∨
   (outB Z 1 1048576 = false ∧ outB L 0 1048576 = false ∧ outB M (-1) 1099511627776 = false ∧ outB D 0 1099511627776 = false ∧ decide ((256 : Int) < n) = false ∧ hdB Z L M D n = false) := by
 unfold hdB
 cases outB Z 1 1048576 <;> cases outB L 0 1048576 <;> cases outB M (-1) 1099511627776 <;> cases outB D 0 1099511627776 <;> cases decide ((256 : Int) < n) <;> simp
theorem fiW_all (z : Int) : ∀ (l : List WS) (i : Int),0 ≤ i → decide (0 ≤ fiW z l i) = !(l.all (okr z))
 | [],i,_ => rfl
 | r :: l,i,h => by
   cases hr : okr z r with
   | true =>
     have e : fiW z (r :: l) i = fiW z l (i + 1) := if_pos hr
     rw [e,fiW_all z l (i + 1) (by omega),List.all_cons,hr,Bool.true_and]
   | false =>
     have e : fiW z (r :: l) i = i := if_neg (by rw [hr]; simp)
     rw [e,List.all_cons,hr,Bool.false_and]
     exact decide_eq_true h
theorem all_drop (p : WS → Bool) (l : List WS) (i : Nat) (h : i < l.length) : (l.drop i).all p = (p l[i] && (l.drop (i + 1)).all p) := by
 rw [List.drop_eq_getElem_cons h]; rfl
theorem risW_drop (l : List WS) (i : Nat) (h : i + 1 < l.length) : risW (l.drop i) = (ahB l[i].s l[i].k l[i + 1].s l[i + 1].k && risW (l.drop (i + 1))) := by
 rw [List.drop_eq_getElem_cons (show i < l.length by omega),List.drop_eq_getElem_cons h]; rfl
theorem risW_last (l : List WS) (i : Nat) (h : l.length ≤ i + 1) : risW (l.drop i) = true := by
 have hl : (l.drop i).length ≤ 1 := by rw [List.length_drop]; omega
 match h2 : l.drop i,hl with
 | [],_ => rfl
 | [_],_ => rfl
def clo35S : zay
 | [.agg [.w (.int .i64 s),.str k,.w (.int .i64 c),.w (.int .i64 t),.w (.int .i64 a),.w (.int .i64 b)],.rf 0 5 0 0],[.g 5 [.agg [.w (.int .i64 Z),.w (.int .i64 L),.w (.int .i64 M),.w (.int .i64 D),.sg 6 xs f]]] => ⟨¬ Z = 0 ∧ ∃ l : List WS,xs = l.map wsA,.w (.bool (!(okWB Z s k c t a b))),[.g 5 [.agg [.w (.int .i64 Z),.w (.int .i64 L),.w (.int .i64 M),.w (.int .i64 D),.sg 6 xs f]]]⟩
 | _,_ => zdj
def idx35S : zay
 | [.sg 6 ys g,.fn id [.rf 0 5 0 0]],[.g 5 [.agg [.w (.int .i64 Z),.w (.int .i64 L),.w (.int .i64 M),.w (.int .i64 D),.sg 6 xs f]]] => ⟨id = 35 ∧ ¬ Z = 0 ∧ ys.length ≤ 9223372036854775807 ∧ (∃ l : List WS,xs = l.map wsA) ∧ ∃ l : List WS,ys = l.map wsA,.w (.int .i64 (fiW Z (ys.map uws) 0)),[.g 5 [.agg [.w (.int .i64 Z),.w (.int .i64 L),.w (.int .i64 M),.w (.int .i64 D),.sg 6 xs f]]]⟩
 | _,_ => zdj
def cont35S : zay
 | [.sg 6 ys g,.fn id [.rf 0 5 0 0]],[.g 5 [.agg [.w (.int .i64 Z),.w (.int .i64 L),.w (.int .i64 M),.w (.int .i64 D),.sg 6 xs f]]] => ⟨id = 35 ∧ ¬ Z = 0 ∧ ys.length ≤ 9223372036854775807 ∧ (∃ l : List WS,xs = l.map wsA) ∧ ∃ l : List WS,ys = l.map wsA,.w (.bool (!((ys.map uws).all (okr Z)))),[.g 5 [.agg [.w (.int .i64 Z),.w (.int .i64 L),.w (.int .i64 M),.w (.int .i64 D),.sg 6 xs f]]]⟩
 | _,_ => zdj
def zdf : zay
 | [.agg [.w (.int .i64 Z),.w (.int .i64 L),.w (.int .i64 M),.w (.int .i64 D),.sg 6 xs f]],[] => ⟨xs.length ≤ 9223372036854775807 ∧ ∃ l : List WS,xs = l.map wsA,.w (.int .i64 (chW Z L M D (xs.map uws))),[]⟩
 | _,_ => zdj
def zec : XPlan := fun _ => .std
def zby : XPlan := fun id => match id with
 | 4 => .opn [] 5
 | _ => .std
def cont35Pl : XPlan := fun id => match id with
 | 1 => .opn [] 2
 | _ => .std
def zdg : XPlan := fun id => match id with
 | 3 => .opn [] 3
 | 8 => .prs [(0,11),(1,11),(4,11),(5,11)]
 | _ => .std
def Sclo35 (f : FuncId) : Option zay :=
 match f with
 | 36 => some mayWS
 | _ => none
theorem Sclo35_ok : Fns Try.prog Sclo35 := by
 intro f s h
 unfold Sclo35 at h
 split at h
 · injection h with h; subst h; exact ⟨⟨_,Try.func36,by kernel_rfl,by kernel_rfl⟩,mayW_sound⟩
 · cases h
section
set_option maxRecDepth 100000
set_option maxHeartbeats 4000000 in
theorem clo35_sound : SoundO Try.prog 35 clo35S := by
 refine fn_soundO (S := Sclo35) (SO := noO) (T := ty) zdc ty_ok Sclo35_ok noO_ok Try.func35 (c := Try.f35.body.getD .skip) (by kernel_rfl) (fun xs pins hp => ?_)
 unfold clo35S at hp ⊢
 split at hp
 · rename_i s k c t a b Z L M D xs f
   obtain ⟨hz,l,rfl⟩ := hp
   have hcl := zal l
   refine ⟨by simp,zec,by kernel_rfl,?_⟩
   obtain ⟨V,hV⟩ : ∃ V,okWB Z s k c t a b = V := ⟨_,rfl⟩
   unfold Try.f35
   simp only [go_sem,zaa,Nat.reduceAdd,Nat.reduceSub,Nat.reduceMul,Int.reduceToNat,reduceCtorEq,↓reduceIte,Int.reducePow,Nat.reducePow,Int.reduceMod,Nat.reduceLeDiff,Int.reduceLE,Int.reduceNe,Int.reduceEq,Nat.reduceEqDiff,Nat.reduceLT,Nat.reduceBEq,List.map_cons,List.map_nil,List.toList_toArray,Array.toList_append,Option.toArray_some,Option.toArray_none,Bool.and_self,ty,Sclo35,mayWS,zec,hz,hV]
   try (refine ⟨_,Weak.refl _,?_⟩)
   try simp only [go_sem,zaa,Nat.reduceAdd,Nat.reduceSub,Nat.reduceMul,Int.reduceToNat,reduceCtorEq,↓reduceIte,Int.reducePow,Nat.reducePow,Int.reduceMod,Nat.reduceLeDiff,Int.reduceLE,Int.reduceNe,Int.reduceEq,Nat.reduceEqDiff,Nat.reduceLT,Nat.reduceBEq,List.map_cons,List.map_nil,List.toList_toArray,Array.toList_append,Option.toArray_some,Option.toArray_none,Bool.and_self,ty,Sclo35,hV,hcl]
 · exact hp.elim
def Oclo35 (f : FuncId) : Option zay :=
 match f with
 | 35 => some clo35S
 | _ => none
theorem Oclo35_ok : FnsO Try.prog Oclo35 := by
 intro f s h
 unfold Oclo35 at h
 split at h
 · injection h with h; subst h; exact ⟨⟨_,Try.func35,by kernel_rfl,by kernel_rfl⟩,clo35_sound⟩
 · cases h
set_option maxHeartbeats 8000000 in
theorem idx35_sound : SoundO Try.prog 53 idx35S := by
 refine fn_soundO (S := noS) (SO := Oclo35) (T := ty) zdc ty_ok noS_ok Oclo35_ok Try.func53 (c := Try.f53.body.getD .skip) (by kernel_rfl) (fun xs pins hp => ?_)
 unfold idx35S at hp ⊢
 split at hp
 · rename_i ys g id Z L M D xs f
   obtain ⟨rfl,hz,hL,⟨q,rfl⟩,l,rfl⟩ := hp
   rw [List.length_map] at hL
   have hle : (l.map wsA).length = l.length := by simp
   have hcl := zal q
   have hcl2 := zal l
   have hex : ∃ p : List WS,q.map wsA = p.map wsA := ⟨q,rfl⟩
   rw [zam]
   refine ⟨by simp,zby,by kernel_rfl,?_⟩
   unfold Try.f53
   simp only [go_sem,zaa,Nat.reduceAdd,Nat.reduceSub,Nat.reduceMul,Int.reduceToNat,reduceCtorEq,↓reduceIte,Int.reducePow,Nat.reducePow,Int.reduceMod,Nat.reduceLeDiff,Int.reduceLE,Int.reduceNe,Int.reduceEq,Nat.reduceEqDiff,Nat.reduceLT,Nat.reduceBEq,List.map_cons,List.map_nil,List.toList_toArray,Array.toList_append,Option.toArray_some,Option.toArray_none,Bool.and_self,ty,noS,Oclo35,zby,hle]
   refine awpO_loopW ⟨fun m σ => ∃ i : Nat,m = l.length - i ∧ i ≤ l.length ∧ fiW Z l 0 = fiW Z (l.drop i) i ∧
       σ = ⟨[.sg 6 (l.map wsA) g,.fn 35 [.rf 0 5 0 0],.junk,.junk,.junk,.junk,.junk,.w (.int .i64 l.length),.w (.int .i64 i),.junk,.junk,.junk,.junk,.junk,.junk,.junk,.junk,.junk,.junk],[(0,.g 5 [.agg [.w (.int .i64 Z),.w (.int .i64 L),.w (.int .i64 M),.w (.int .i64 D),.sg 6 (q.map wsA) f]])],4⟩,?_,?_⟩
   · refine ⟨_,_,zao [0,1,2,3] rfl rfl rfl ?_ ?_,0,rfl,by omega,by rw [List.drop_zero]; rfl,rfl⟩
     · simp only [ssT,zav,zaw,setSlot,gOf,AV.ren,renL,Blk.ren,Ax.look,Ax.put,reduceCtorEq,↓reduceIte,Nat.reduceEqDiff,Nat.reduceLT,Nat.reduceAdd,List.length_append,List.length_cons,List.length_nil,Option.some.injEq]; try simp
     · simp only [ssT,zav,zaw,setSlot,gOf,AV.ren,renL,Blk.ren,Ax.look,Ax.put,reduceCtorEq,↓reduceIte,Nat.reduceEqDiff,Nat.reduceLT,Nat.reduceAdd,List.length_append,List.length_cons,List.length_nil,Option.some.injEq]; try simp
   · rintro m σ ⟨i,rfl,hi,hinv,rfl⟩
     by_cases hil : i < l.length
     · have e1 : ((i : Int) + 1 + 9223372036854775808) % 18446744073709551616 - 9223372036854775808 = ((i + 1 : Nat) : Int) := by omega
       have d1 : decide ((i : Int) < l.length) = true := decide_eq_true (by omega)
       have hs1 := zcb l i hil
       have hdr : l.drop i = l[i] :: l.drop (i + 1) := List.drop_eq_getElem_cons hil
       obtain ⟨r,hr⟩ : ∃ r,l[i] = r := ⟨_,rfl⟩
       rw [hr] at hs1 hdr
       rw [hdr] at hinv
       obtain ⟨s,k,c,t,a,b⟩ := r
       have hs1 : slot (l.map wsA) i = .agg [.w (.int .i64 s),.str k,.w (.int .i64 c),.w (.int .i64 t),.w (.int .i64 a),.w (.int .i64 b)] := hs1
       have hok : okr Z ⟨s,k,c,t,a,b⟩ = okWB Z s k c t a b := rfl
       cases hv : okWB Z s k c t a b with
       | false =>
         have hfi : fiW Z l 0 = i := by rw [hinv]; exact if_neg (by rw [hok,hv]; simp)
         rw [hfi]
         simp only [go_sem,zaa,Nat.reduceAdd,Nat.reduceSub,Nat.reduceMul,Int.reduceToNat,reduceCtorEq,↓reduceIte,Int.reducePow,Nat.reducePow,Int.reduceMod,Nat.reduceLeDiff,Int.reduceLE,Int.reduceNe,Int.reduceEq,Nat.reduceEqDiff,Nat.reduceLT,Nat.reduceBEq,List.map_cons,List.map_nil,List.toList_toArray,Array.toList_append,Option.toArray_some,Option.toArray_none,Bool.and_self,ty,noS,Oclo35,zby,clo35S,hle,d1,hs1,hz,hv,hex,Int.toNat_natCast,Bool.not_true,Bool.not_false]
         repeat (refine And.intro (by omega) ?_)
         refine ⟨_,Weak.refl _,?_⟩
         simp only [go_sem,zaa,Nat.reduceAdd,Nat.reduceSub,Nat.reduceMul,Int.reduceToNat,reduceCtorEq,↓reduceIte,Int.reducePow,Nat.reducePow,Int.reduceMod,Nat.reduceLeDiff,Int.reduceLE,Int.reduceNe,Int.reduceEq,Nat.reduceEqDiff,Nat.reduceLT,Nat.reduceBEq,List.map_cons,List.map_nil,List.toList_toArray,Array.toList_append,Option.toArray_some,Option.toArray_none,Bool.and_self,ty,noS,zby,hcl,cond_true]
         try (refine ⟨_,Weak.refl _,?_⟩)
         try simp only [go_sem,zaa,Nat.reduceAdd,Nat.reduceSub,Nat.reduceMul,Int.reduceToNat,reduceCtorEq,↓reduceIte,Int.reducePow,Nat.reducePow,Int.reduceMod,Nat.reduceLeDiff,Int.reduceLE,Int.reduceNe,Int.reduceEq,Nat.reduceEqDiff,Nat.reduceLT,Nat.reduceBEq,List.map_cons,List.map_nil,List.toList_toArray,Array.toList_append,Option.toArray_some,Option.toArray_none,Bool.and_self,ty,noS,zby,hcl,cond_true]
       | true =>
         have hfi : fiW Z l 0 = fiW Z (l.drop (i + 1)) ((i + 1 : Nat) : Int) := by
           rw [hinv]
           have e : fiW Z (⟨s,k,c,t,a,b⟩ :: l.drop (i + 1)) i = fiW Z (l.drop (i + 1)) ((i : Int) + 1) := if_pos (by rw [hok,hv])
           rw [e]; simp
         simp only [go_sem,zaa,Nat.reduceAdd,Nat.reduceSub,Nat.reduceMul,Int.reduceToNat,reduceCtorEq,↓reduceIte,Int.reducePow,Nat.reducePow,Int.reduceMod,Nat.reduceLeDiff,Int.reduceLE,Int.reduceNe,Int.reduceEq,Nat.reduceEqDiff,Nat.reduceLT,Nat.reduceBEq,List.map_cons,List.map_nil,List.toList_toArray,Array.toList_append,Option.toArray_some,Option.toArray_none,Bool.and_self,ty,noS,Oclo35,zby,clo35S,hle,d1,hs1,e1,hz,hv,hex,Int.toNat_natCast,Bool.not_true,Bool.not_false]
         repeat (refine And.intro (by omega) ?_)
         refine ⟨l.length - (i + 1),_,by omega,zao [0,1,2,3] rfl rfl rfl ?_ ?_,i + 1,rfl,by omega,hfi,rfl⟩
         · simp only [ssT,zav,zaw,setSlot,gOf,AV.ren,renL,Blk.ren,Ax.look,Ax.put,reduceCtorEq,↓reduceIte,Nat.reduceEqDiff,Nat.reduceLT,Nat.reduceAdd,List.length_append,List.length_cons,List.length_nil,Option.some.injEq]; try simp
         · simp only [ssT,zav,zaw,setSlot,gOf,AV.ren,renL,Blk.ren,Ax.look,Ax.put,reduceCtorEq,↓reduceIte,Nat.reduceEqDiff,Nat.reduceLT,Nat.reduceAdd,List.length_append,List.length_cons,List.length_nil,Option.some.injEq]; try simp
     · have d1 : decide ((i : Int) < l.length) = false := decide_eq_false (by omega)
       have hdr : l.drop i = [] := List.drop_eq_nil_of_le (by omega)
       rw [hdr] at hinv
       have hfi : fiW Z l 0 = -1 := hinv
       rw [hfi]
       simp only [go_sem,zaa,Nat.reduceAdd,Nat.reduceSub,Nat.reduceMul,Int.reduceToNat,reduceCtorEq,↓reduceIte,Int.reducePow,Nat.reducePow,Int.reduceMod,Nat.reduceLeDiff,Int.reduceLE,Int.reduceNe,Int.reduceEq,Nat.reduceEqDiff,Nat.reduceLT,Nat.reduceBEq,List.map_cons,List.map_nil,List.toList_toArray,Array.toList_append,Option.toArray_some,Option.toArray_none,Bool.and_self,ty,noS,Oclo35,zby,hle,d1]
       refine ⟨_,Weak.refl _,?_⟩
       simp only [go_sem,zaa,Nat.reduceAdd,Nat.reduceSub,Nat.reduceMul,Int.reduceToNat,reduceCtorEq,↓reduceIte,Int.reducePow,Nat.reducePow,Int.reduceMod,Nat.reduceLeDiff,Int.reduceLE,Int.reduceNe,Int.reduceEq,Nat.reduceEqDiff,Nat.reduceLT,Nat.reduceBEq,List.map_cons,List.map_nil,List.toList_toArray,Array.toList_append,Option.toArray_some,Option.toArray_none,Bool.and_self,ty,noS,zby,hcl,cond_true]
       try (refine ⟨_,Weak.refl _,?_⟩)
       try simp only [go_sem,zaa,Nat.reduceAdd,Nat.reduceSub,Nat.reduceMul,Int.reduceToNat,reduceCtorEq,↓reduceIte,Int.reducePow,Nat.reducePow,Int.reduceMod,Nat.reduceLeDiff,Int.reduceLE,Int.reduceNe,Int.reduceEq,Nat.reduceEqDiff,Nat.reduceLT,Nat.reduceBEq,List.map_cons,List.map_nil,List.toList_toArray,Array.toList_append,Option.toArray_some,Option.toArray_none,Bool.and_self,ty,noS,zby,hcl,cond_true]
 · exact hp.elim
def Oidx35 (f : FuncId) : Option zay :=
 match f with
 | 53 => some idx35S
 | _ => none
theorem Oidx35_ok : FnsO Try.prog Oidx35 := by
 intro f s h
 unfold Oidx35 at h
 split at h
 · injection h with h; subst h; exact ⟨⟨_,Try.func53,by kernel_rfl,by kernel_rfl⟩,idx35_sound⟩
 · cases h
set_option maxHeartbeats 4000000 in
theorem cont35_sound : SoundO Try.prog 34 cont35S := by
 refine fn_soundO (S := noS) (SO := Oidx35) (T := ty) zdc ty_ok noS_ok Oidx35_ok Try.func34 (c := Try.f34.body.getD .skip) (by kernel_rfl) (fun xs pins hp => ?_)
 unfold cont35S at hp ⊢
 split at hp
 · rename_i ys g id Z L M D xs f
   obtain ⟨rfl,hz,hL,⟨q,rfl⟩,l,rfl⟩ := hp
   have hcl := zal q
   have hex : ∃ p : List WS,q.map wsA = p.map wsA := ⟨q,rfl⟩
   have hex2 : ∃ p : List WS,l.map wsA = p.map wsA := ⟨l,rfl⟩
   have hle : (l.map wsA).length = l.length := by simp
   have hc : coe ty 29 (.sg 6 (l.map wsA) g) = .sg 6 (l.map wsA) g := by cases l <;> rfl
   rw [hle] at hL
   rw [zam]
   have hfi := fiW_all Z l 0 (by omega)
   obtain ⟨V,hV⟩ : ∃ V,l.all (okr Z) = V := ⟨_,rfl⟩
   rw [hV] at hfi ⊢
   refine ⟨by simp,cont35Pl,by kernel_rfl,?_⟩
   unfold Try.f34
   simp only [go_sem,zaa,Nat.reduceAdd,Nat.reduceSub,Nat.reduceMul,Int.reduceToNat,reduceCtorEq,↓reduceIte,Int.reducePow,Nat.reducePow,Int.reduceMod,Nat.reduceLeDiff,Int.reduceLE,Int.reduceNe,Int.reduceEq,Nat.reduceEqDiff,Nat.reduceLT,Nat.reduceBEq,List.map_cons,List.map_nil,List.toList_toArray,Array.toList_append,Option.toArray_some,Option.toArray_none,Bool.and_self,ty,noS,Oidx35,cont35Pl,idx35S,hle,hL,hz,hex,hex2,hc,zam,hfi]
   try (refine ⟨_,Weak.refl _,?_⟩)
   try simp only [go_sem,zaa,Nat.reduceAdd,Nat.reduceSub,Nat.reduceMul,Int.reduceToNat,reduceCtorEq,↓reduceIte,Int.reducePow,Nat.reducePow,Int.reduceMod,Nat.reduceLeDiff,Int.reduceLE,Int.reduceNe,Int.reduceEq,Nat.reduceEqDiff,Nat.reduceLT,Nat.reduceBEq,List.map_cons,List.map_nil,List.toList_toArray,Array.toList_append,Option.toArray_some,Option.toArray_none,Bool.and_self,ty,noS,hcl,cond_true]
 · exact hp.elim
end
end Go.Proofs.Ytlpjdgkpapjldaa
namespace Go.Proofs.Ytlpjdgkpapjldaa
open Ax
def zbd (f : FuncId) : Option zay :=
 match f with
 | 25 => some outS
 | 37 => some aheadS
 | 38 => some spotS
 | 30 => some inS
 | 39 => some mayWS
 | 40 => some raheadS
 | _ => none
theorem Schk35_ok : Fns Try.prog zbd := by
 intro f s h
 unfold zbd at h
 split at h
 · injection h with h; subst h; exact ⟨⟨_,Try.func25,by kernel_rfl,by kernel_rfl⟩,out_sound⟩
 · injection h with h; subst h; exact ⟨⟨_,Try.func37,by kernel_rfl,by kernel_rfl⟩,ahead_sound⟩
 · injection h with h; subst h; exact ⟨⟨_,Try.func38,by kernel_rfl,by kernel_rfl⟩,spot_sound⟩
 · injection h with h; subst h; exact ⟨⟨_,Try.func30,by kernel_rfl,by kernel_rfl⟩,in_sound⟩
 · injection h with h; subst h; exact ⟨⟨_,Try.func39,by kernel_rfl,by kernel_rfl⟩,oneW_sound⟩
 · injection h with h; subst h; exact ⟨⟨_,Try.func40,by kernel_rfl,by kernel_rfl⟩,rahead_sound⟩
 · cases h
def zeh (f : FuncId) : Option zay :=
 match f with
 | 34 => some cont35S
 | _ => none
theorem Ochk35_ok : FnsO Try.prog zeh := by
 intro f s h
 unfold zeh at h
 split at h
 · injection h with h; subst h; exact ⟨⟨_,Try.func34,by kernel_rfl,by kernel_rfl⟩,cont35_sound⟩
 · cases h
def zbk : Plan := fun id => match id with
 | 6 => some []
 | 11 => some []
 | _ => none
section
set_option maxRecDepth 100000
set_option maxHeartbeats 32000000 in
theorem chkW_sound : zbz Try.prog 19 zdf := by
 refine zdq (S := zbd) (SO := zeh) (T := ty) zdc ty_ok Schk35_ok Ochk35_ok Try.func19 (c := Try.f19.body.getD .skip) (by kernel_rfl) (fun xs pins hp _ => ?_)
 unfold zdf at hp ⊢
 split at hp
 · rename_i Z L M D xs f _
   obtain ⟨hL,l,rfl⟩ := hp
   rw [List.length_map] at hL
   have hle : (l.map wsA).length = l.length := by simp
   have hcl := zal l
   have hc : ∀ f,coe ty 29 (.sg 6 (l.map wsA) f) = .sg 6 (l.map wsA) f := fun f => by cases l <;> rfl
   have hex : ∃ p : List WS,l.map wsA = p.map wsA := ⟨l,rfl⟩
   rw [zam]
   refine ⟨by simp,zdg,by kernel_rfl,?_⟩
   unfold Try.f19
   rcases hd_cases Z L M D l.length with Q | Q | Q | Q | Q | Q
   · have hch : chW Z L M D l = 11 := if_pos Q.2
     rw [hch]
     simp only [go_sem,zaa,Nat.reduceAdd,Nat.reduceSub,Nat.reduceMul,Int.reduceToNat,reduceCtorEq,↓reduceIte,Int.reducePow,Nat.reducePow,Int.reduceMod,Nat.reduceLeDiff,Int.reduceLE,Int.reduceNe,Int.reduceEq,Nat.reduceEqDiff,Nat.reduceLT,Nat.reduceBEq,List.map_cons,List.map_nil,List.toList_toArray,Array.toList_append,Option.toArray_some,Option.toArray_none,Bool.and_self,ty,zbd,zeh,zdg,outS,hle,Q.1,Bool.not_true,Bool.not_false]
     exact zbq 2 rfl
   · have hch : chW Z L M D l = 11 := if_pos Q.2.2
     rw [hch]
     simp only [go_sem,zaa,Nat.reduceAdd,Nat.reduceSub,Nat.reduceMul,Int.reduceToNat,reduceCtorEq,↓reduceIte,Int.reducePow,Nat.reducePow,Int.reduceMod,Nat.reduceLeDiff,Int.reduceLE,Int.reduceNe,Int.reduceEq,Nat.reduceEqDiff,Nat.reduceLT,Nat.reduceBEq,List.map_cons,List.map_nil,List.toList_toArray,Array.toList_append,Option.toArray_some,Option.toArray_none,Bool.and_self,ty,zbd,zeh,zdg,outS,hle,Q.1,Q.2.1,Bool.not_true,Bool.not_false]
     exact zbq 2 rfl
   · have hch : chW Z L M D l = 11 := if_pos Q.2.2.2
     rw [hch]
     simp only [go_sem,zaa,Nat.reduceAdd,Nat.reduceSub,Nat.reduceMul,Int.reduceToNat,reduceCtorEq,↓reduceIte,Int.reducePow,Nat.reducePow,Int.reduceMod,Nat.reduceLeDiff,Int.reduceLE,Int.reduceNe,Int.reduceEq,Nat.reduceEqDiff,Nat.reduceLT,Nat.reduceBEq,List.map_cons,List.map_nil,List.toList_toArray,Array.toList_append,Option.toArray_some,Option.toArray_none,Bool.and_self,ty,zbd,zeh,zdg,outS,hle,Q.1,Q.2.1,Q.2.2.1,Bool.not_true,Bool.not_false]
     exact zbq 2 rfl
   · have hch : chW Z L M D l = 11 := if_pos Q.2.2.2.2
     rw [hch]
     simp only [go_sem,zaa,Nat.reduceAdd,Nat.reduceSub,Nat.reduceMul,Int.reduceToNat,reduceCtorEq,↓reduceIte,Int.reducePow,Nat.reducePow,Int.reduceMod,Nat.reduceLeDiff,Int.reduceLE,Int.reduceNe,Int.reduceEq,Nat.reduceEqDiff,Nat.reduceLT,Nat.reduceBEq,List.map_cons,List.map_nil,List.toList_toArray,Array.toList_append,Option.toArray_some,Option.toArray_none,Bool.and_self,ty,zbd,zeh,zdg,outS,hle,Q.1,Q.2.1,Q.2.2.1,Q.2.2.2.1,Bool.not_true,Bool.not_false]
     exact zbq 2 rfl
   · have hch : chW Z L M D l = 11 := if_pos Q.2.2.2.2.2
     rw [hch]
     simp only [go_sem,zaa,Nat.reduceAdd,Nat.reduceSub,Nat.reduceMul,Int.reduceToNat,reduceCtorEq,↓reduceIte,Int.reducePow,Nat.reducePow,Int.reduceMod,Nat.reduceLeDiff,Int.reduceLE,Int.reduceNe,Int.reduceEq,Nat.reduceEqDiff,Nat.reduceLT,Nat.reduceBEq,List.map_cons,List.map_nil,List.toList_toArray,Array.toList_append,Option.toArray_some,Option.toArray_none,Bool.and_self,ty,zbd,zeh,zdg,outS,hle,Q.1,Q.2.1,Q.2.2.1,Q.2.2.2.1,Q.2.2.2.2.1,Bool.not_true,Bool.not_false]
     exact zbq 2 rfl
   obtain ⟨q1,q2,q3,q4,q5,q6⟩ := Q
   have hch : chW Z L M D l = if l.all (okr Z) = true then (if risW l = true then 0 else 16) else 11 := if_neg (by rw [q6]; simp)
   have hz : ¬ Z = 0 := by have := zar q1; omega
   rw [hch]
   cases hA : l.all (okr Z) with
   | false =>
     rw [if_neg (by simp)]
     simp only [go_sem,zaa,Nat.reduceAdd,Nat.reduceSub,Nat.reduceMul,Int.reduceToNat,reduceCtorEq,↓reduceIte,Int.reducePow,Nat.reducePow,Int.reduceMod,Nat.reduceLeDiff,Int.reduceLE,Int.reduceNe,Int.reduceEq,Nat.reduceEqDiff,Nat.reduceLT,Nat.reduceBEq,List.map_cons,List.map_nil,List.toList_toArray,Array.toList_append,Option.toArray_some,Option.toArray_none,Bool.and_self,ty,zbd,zeh,zdg,outS,cont35S,hle,hL,hz,hc,hex,zam,q1,q2,q3,q4,q5,hA,Bool.not_true,Bool.not_false]
     try (refine ⟨_,Weak.refl _,?_⟩)
     try simp only [go_sem,zaa,Nat.reduceAdd,Nat.reduceSub,Nat.reduceMul,Int.reduceToNat,reduceCtorEq,↓reduceIte,Int.reducePow,Nat.reducePow,Int.reduceMod,Nat.reduceLeDiff,Int.reduceLE,Int.reduceNe,Int.reduceEq,Nat.reduceEqDiff,Nat.reduceLT,Nat.reduceBEq,List.map_cons,List.map_nil,List.toList_toArray,Array.toList_append,Option.toArray_some,Option.toArray_none,Bool.and_self,ty,zbd,zeh,zdg]
     first | exact zbq 2 rfl | skip
   | true =>
     rw [if_pos rfl]
     simp only [go_sem,zaa,Nat.reduceAdd,Nat.reduceSub,Nat.reduceMul,Int.reduceToNat,reduceCtorEq,↓reduceIte,Int.reducePow,Nat.reducePow,Int.reduceMod,Nat.reduceLeDiff,Int.reduceLE,Int.reduceNe,Int.reduceEq,Nat.reduceEqDiff,Nat.reduceLT,Nat.reduceBEq,List.map_cons,List.map_nil,List.toList_toArray,Array.toList_append,Option.toArray_some,Option.toArray_none,Bool.and_self,ty,zbd,zeh,zdg,outS,cont35S,hle,hL,hz,hc,hex,zam,q1,q2,q3,q4,q5,hA,hcl,Bool.not_true,Bool.not_false]
     refine awpO_loopW ⟨fun m σ => ∃ i : Nat,m = l.length - i ∧ 1 ≤ i ∧ (i ≤ l.length ∨ i = 1) ∧ risW (l.drop (i - 1)) = risW l ∧
       σ = ⟨[.agg [.w (.int .i64 Z),.w (.int .i64 L),.w (.int .i64 M),.w (.int .i64 D),.sg 6 (l.map wsA) f],.rf 4 5 0 0,.w (.int .i64 0),.w (.int .i64 i),.junk,.junk,.junk,.junk,.junk,.junk,.junk,.junk,.junk,.junk,.junk,.junk,.junk,.junk,.junk,.junk,.junk,.junk,.junk,.junk,.junk,.junk,.junk,.junk,.junk,.junk,.junk,.junk,.junk,.junk,.junk,.junk,.junk,.junk,.junk,.junk,.junk,.junk,.junk,.junk,.junk,.junk,.junk,.junk,.junk,.junk,.junk,.junk,.junk],[(4,.g 5 [.agg [.w (.int .i64 Z),.w (.int .i64 L),.w (.int .i64 M),.w (.int .i64 D),.sg 6 (l.map wsA) f]])],5⟩,?_,?_⟩
     · refine ⟨_,_,zao [0,1,2,3,4] rfl rfl rfl ?_ ?_,1,rfl,by omega,by omega,rfl,rfl⟩
       · simp only [ssT,zav,zaw,setSlot,gOf,AV.ren,renL,Blk.ren,Ax.look,Ax.put,reduceCtorEq,↓reduceIte,Nat.reduceEqDiff,Nat.reduceLT,Nat.reduceAdd,List.length_append,List.length_cons,List.length_nil,Option.some.injEq]; try simp
       · simp only [ssT,zav,zaw,setSlot,gOf,AV.ren,renL,Blk.ren,Ax.look,Ax.put,reduceCtorEq,↓reduceIte,Nat.reduceEqDiff,Nat.reduceLT,Nat.reduceAdd,List.length_append,List.length_cons,List.length_nil,Option.some.injEq]; try simp
     · rintro m σ ⟨i,rfl,hi1,hi,hb,rfl⟩
       by_cases hil : i < l.length
       · have d2 : decide ((i : Int) < l.length) = true := decide_eq_true (by omega)
         have e1 : ((i : Int) + 1 + 9223372036854775808) % 18446744073709551616 - 9223372036854775808 = ((i + 1 : Nat) : Int) := by omega
         have e2 : ((i : Int) - 1 + 9223372036854775808) % 18446744073709551616 - 9223372036854775808 = ((i - 1 : Nat) : Int) := by omega
         have hs1 := zcb l i hil
         have hs2 := zcb l (i - 1) (by omega)
         have hd := risW_drop l (i - 1) (by omega)
         rw [hb] at hd
         have hi11 : i - 1 + 1 = i := by omega
         simp only [hi11] at hd
         obtain ⟨p,hp1⟩ : ∃ x,l[i] = x := ⟨_,rfl⟩
         obtain ⟨q,hq1⟩ : ∃ x,l[i - 1]'(by omega) = x := ⟨_,rfl⟩
         rw [hp1] at hs1
         rw [hq1] at hs2
         rw [hp1,hq1] at hd
         obtain ⟨s1,k1,c1,t1,a1,b1⟩ := p
         obtain ⟨s2,k2,c2,t2,a2,b2⟩ := q
         have hs1 : slot (l.map wsA) i = .agg [.w (.int .i64 s1),.str k1,.w (.int .i64 c1),.w (.int .i64 t1),.w (.int .i64 a1),.w (.int .i64 b1)] := hs1
         have hs2 : slot (l.map wsA) (i - 1) = .agg [.w (.int .i64 s2),.str k2,.w (.int .i64 c2),.w (.int .i64 t2),.w (.int .i64 a2),.w (.int .i64 b2)] := hs2
         have hd : risW l = (ahB s2 k2 s1 k1 && risW (l.drop i)) := hd
         cases hB : ahB s2 k2 s1 k1 with
         | true =>
           rw [hB,Bool.true_and] at hd
           simp only [go_sem,zaa,Nat.reduceAdd,Nat.reduceSub,Nat.reduceMul,Int.reduceToNat,reduceCtorEq,↓reduceIte,Int.reducePow,Nat.reducePow,Int.reduceMod,Nat.reduceLeDiff,Int.reduceLE,Int.reduceNe,Int.reduceEq,Nat.reduceEqDiff,Nat.reduceLT,Nat.reduceBEq,List.map_cons,List.map_nil,List.toList_toArray,Array.toList_append,Option.toArray_some,Option.toArray_none,Bool.and_self,ty,zbd,zeh,zdg,outS,aheadS,spotS,hle,d2,hs1,hs2,e1,e2,hB,Bool.not_true,Bool.not_false,Int.toNat_natCast]
           repeat (refine And.intro (by omega) ?_)
           refine ⟨l.length - (i + 1),_,by omega,zao [0,1,2,3,4] rfl rfl rfl ?_ ?_,i + 1,rfl,by omega,by omega,?_,rfl⟩
           · simp only [ssT,zav,zaw,setSlot,gOf,AV.ren,renL,Blk.ren,Ax.look,Ax.put,reduceCtorEq,↓reduceIte,Nat.reduceEqDiff,Nat.reduceLT,Nat.reduceAdd,List.length_append,List.length_cons,List.length_nil,Option.some.injEq]; try simp
           · simp only [ssT,zav,zaw,setSlot,gOf,AV.ren,renL,Blk.ren,Ax.look,Ax.put,reduceCtorEq,↓reduceIte,Nat.reduceEqDiff,Nat.reduceLT,Nat.reduceAdd,List.length_append,List.length_cons,List.length_nil,Option.some.injEq]; try simp
           · show risW (l.drop i) = _
             exact hd.symm
         | false =>
           rw [hB,Bool.false_and] at hd
           rw [if_neg (by rw [hd]; simp)]
           simp only [go_sem,zaa,Nat.reduceAdd,Nat.reduceSub,Nat.reduceMul,Int.reduceToNat,reduceCtorEq,↓reduceIte,Int.reducePow,Nat.reducePow,Int.reduceMod,Nat.reduceLeDiff,Int.reduceLE,Int.reduceNe,Int.reduceEq,Nat.reduceEqDiff,Nat.reduceLT,Nat.reduceBEq,List.map_cons,List.map_nil,List.toList_toArray,Array.toList_append,Option.toArray_some,Option.toArray_none,Bool.and_self,ty,zbd,zeh,zdg,outS,aheadS,spotS,hle,d2,hs1,hs2,e1,e2,hB,Bool.not_true,Bool.not_false,Int.toNat_natCast]
           repeat (refine And.intro (by omega) ?_)
           refine ⟨_,Weak.refl _,?_⟩
           simp only [go_sem,zaa,Nat.reduceAdd,Nat.reduceSub,Nat.reduceMul,Int.reduceToNat,reduceCtorEq,↓reduceIte,Int.reducePow,Nat.reducePow,Int.reduceMod,Nat.reduceLeDiff,Int.reduceLE,Int.reduceNe,Int.reduceEq,Nat.reduceEqDiff,Nat.reduceLT,Nat.reduceBEq,List.map_cons,List.map_nil,List.toList_toArray,Array.toList_append,Option.toArray_some,Option.toArray_none,Bool.and_self,ty,zbd,zeh,zdg]
           exact zbq 2 rfl
       · have d2 : decide ((i : Int) < l.length) = false := decide_eq_false (by omega)
         have hr : risW l = true := by rw [← hb]; exact risW_last l _ (by omega)
         rw [if_pos hr]
         simp only [go_sem,zaa,Nat.reduceAdd,Nat.reduceSub,Nat.reduceMul,Int.reduceToNat,reduceCtorEq,↓reduceIte,Int.reducePow,Nat.reducePow,Int.reduceMod,Nat.reduceLeDiff,Int.reduceLE,Int.reduceNe,Int.reduceEq,Nat.reduceEqDiff,Nat.reduceLT,Nat.reduceBEq,List.map_cons,List.map_nil,List.toList_toArray,Array.toList_append,Option.toArray_some,Option.toArray_none,Bool.and_self,ty,zbd,zeh,zdg,hle,d2]
         refine ⟨_,Weak.refl _,?_⟩
         simp only [go_sem,zaa,Nat.reduceAdd,Nat.reduceSub,Nat.reduceMul,Int.reduceToNat,reduceCtorEq,↓reduceIte,Int.reducePow,Nat.reducePow,Int.reduceMod,Nat.reduceLeDiff,Int.reduceLE,Int.reduceNe,Int.reduceEq,Nat.reduceEqDiff,Nat.reduceLT,Nat.reduceBEq,List.map_cons,List.map_nil,List.toList_toArray,Array.toList_append,Option.toArray_some,Option.toArray_none,Bool.and_self,ty,zbd,zeh,zdg]
         exact zbq 2 rfl
 · exact hp.elim
set_option maxHeartbeats 32000000 in
theorem rchkW_sound : zbz Try.prog 20 zdf := by
 refine fn_soundF (S := zbd) (T := ty) (pl := zbk) zdc ty_ok Schk35_ok Try.func20 (c := Try.f20.body.getD .skip) (by kernel_rfl) (by kernel_rfl) (fun xs pins hp _ => ?_)
 unfold zdf at hp ⊢
 split at hp
 · rename_i Z L M D xs f _
   obtain ⟨hL,l,rfl⟩ := hp
   rw [List.length_map] at hL
   have hle : (l.map wsA).length = l.length := by simp
   have hcl := zal l
   have hc : ∀ f,coe ty 29 (.sg 6 (l.map wsA) f) = .sg 6 (l.map wsA) f := fun f => by cases l <;> rfl
   have hex : ∃ p : List WS,l.map wsA = p.map wsA := ⟨l,rfl⟩
   rw [zam]
   refine ⟨by simp,?_⟩
   unfold Try.f20
   rcases hd_cases Z L M D l.length with Q | Q | Q | Q | Q | Q
   · have hch : chW Z L M D l = 11 := if_pos Q.2
     rw [hch]
     simp only [go_sem,zad,Nat.reduceAdd,Nat.reduceSub,Nat.reduceMul,Int.reduceToNat,reduceCtorEq,↓reduceIte,Int.reducePow,Nat.reducePow,Int.reduceMod,Nat.reduceLeDiff,Int.reduceLE,Int.reduceNe,Int.reduceEq,Nat.reduceEqDiff,Nat.reduceLT,Nat.reduceBEq,List.map_cons,List.map_nil,List.toList_toArray,Array.toList_append,Option.toArray_some,Option.toArray_none,Bool.and_self,ty,zbd,zbk,inS,hle,Q.1,Bool.not_true,Bool.not_false]
     exact zbq 2 rfl
   · have hch : chW Z L M D l = 11 := if_pos Q.2.2
     rw [hch]
     simp only [go_sem,zad,Nat.reduceAdd,Nat.reduceSub,Nat.reduceMul,Int.reduceToNat,reduceCtorEq,↓reduceIte,Int.reducePow,Nat.reducePow,Int.reduceMod,Nat.reduceLeDiff,Int.reduceLE,Int.reduceNe,Int.reduceEq,Nat.reduceEqDiff,Nat.reduceLT,Nat.reduceBEq,List.map_cons,List.map_nil,List.toList_toArray,Array.toList_append,Option.toArray_some,Option.toArray_none,Bool.and_self,ty,zbd,zbk,inS,hle,Q.1,Q.2.1,Bool.not_true,Bool.not_false]
     exact zbq 2 rfl
   · have hch : chW Z L M D l = 11 := if_pos Q.2.2.2
     rw [hch]
     simp only [go_sem,zad,Nat.reduceAdd,Nat.reduceSub,Nat.reduceMul,Int.reduceToNat,reduceCtorEq,↓reduceIte,Int.reducePow,Nat.reducePow,Int.reduceMod,Nat.reduceLeDiff,Int.reduceLE,Int.reduceNe,Int.reduceEq,Nat.reduceEqDiff,Nat.reduceLT,Nat.reduceBEq,List.map_cons,List.map_nil,List.toList_toArray,Array.toList_append,Option.toArray_some,Option.toArray_none,Bool.and_self,ty,zbd,zbk,inS,hle,Q.1,Q.2.1,Q.2.2.1,Bool.not_true,Bool.not_false]
     exact zbq 2 rfl
   · have hch : chW Z L M D l = 11 := if_pos Q.2.2.2.2
     rw [hch]
     simp only [go_sem,zad,Nat.reduceAdd,Nat.reduceSub,Nat.reduceMul,Int.reduceToNat,reduceCtorEq,↓reduceIte,Int.reducePow,Nat.reducePow,Int.reduceMod,Nat.reduceLeDiff,Int.reduceLE,Int.reduceNe,Int.reduceEq,Nat.reduceEqDiff,Nat.reduceLT,Nat.reduceBEq,List.map_cons,List.map_nil,List.toList_toArray,Array.toList_append,Option.toArray_some,Option.toArray_none,Bool.and_self,ty,zbd,zbk,inS,hle,Q.1,Q.2.1,Q.2.2.1,Q.2.2.2.1,Bool.not_true,Bool.not_false]
     exact zbq 2 rfl
   · have hch : chW Z L M D l = 11 := if_pos Q.2.2.2.2.2
     rw [hch]
     simp only [go_sem,zad,Nat.reduceAdd,Nat.reduceSub,Nat.reduceMul,Int.reduceToNat,reduceCtorEq,↓reduceIte,Int.reducePow,Nat.reducePow,Int.reduceMod,Nat.reduceLeDiff,Int.reduceLE,Int.reduceNe,Int.reduceEq,Nat.reduceEqDiff,Nat.reduceLT,Nat.reduceBEq,List.map_cons,List.map_nil,List.toList_toArray,Array.toList_append,Option.toArray_some,Option.toArray_none,Bool.and_self,ty,zbd,zbk,inS,hle,Q.1,Q.2.1,Q.2.2.1,Q.2.2.2.1,Q.2.2.2.2.1,Bool.not_true,Bool.not_false]
     exact zbq 2 rfl
   obtain ⟨q1,q2,q3,q4,q5,q6⟩ := Q
   have hch : chW Z L M D l = if l.all (okr Z) = true then (if risW l = true then 0 else 16) else 11 := if_neg (by rw [q6]; simp)
   have hz : ¬ Z = 0 := by have := zar q1; omega
   rw [hch]
   simp only [go_sem,zad,Nat.reduceAdd,Nat.reduceSub,Nat.reduceMul,Int.reduceToNat,reduceCtorEq,↓reduceIte,Int.reducePow,Nat.reducePow,Int.reduceMod,Nat.reduceLeDiff,Int.reduceLE,Int.reduceNe,Int.reduceEq,Nat.reduceEqDiff,Nat.reduceLT,Nat.reduceBEq,List.map_cons,List.map_nil,List.toList_toArray,Array.toList_append,Option.toArray_some,Option.toArray_none,Bool.and_self,ty,zbd,zbk,inS,hle,q1,q2,q3,q4,q5,Bool.not_true,Bool.not_false]
   refine zdr ⟨fun m σ => ∃ i : Nat,m = l.length - i ∧ i ≤ l.length ∧ (l.drop i).all (okr Z) = l.all (okr Z) ∧
     σ = ⟨[.agg [.w (.int .i64 Z),.w (.int .i64 L),.w (.int .i64 M),.w (.int .i64 D),.sg 6 (l.map wsA) f],.rf 4 5 0 0,.w (.int .i64 0),.w (.int .i64 i),.junk,.junk,.junk,.junk,.junk,.junk,.junk,.junk,.junk,.junk,.junk,.junk,.junk,.junk,.junk,.junk,.junk,.junk,.junk,.junk,.junk,.junk,.junk,.junk,.junk,.junk,.junk,.junk,.junk,.junk,.junk,.junk,.junk,.junk,.junk,.junk,.junk,.junk,.junk,.junk,.junk,.junk,.junk,.junk,.junk,.junk,.junk,.junk,.junk,.junk,.junk,.junk,.junk,.junk,.junk,.junk,.junk,.junk,.junk,.junk,.junk,.junk,.junk,.junk,.junk],[(4,.g 5 [.agg [.w (.int .i64 Z),.w (.int .i64 L),.w (.int .i64 M),.w (.int .i64 D),.sg 6 (l.map wsA) f]])],5⟩,?_,?_⟩
   · refine ⟨_,_,zao [0,1,2,3,4] rfl rfl rfl ?_ ?_,0,rfl,by omega,rfl,rfl⟩
     · simp only [ssT,zav,zaw,setSlot,gOf,AV.ren,renL,Blk.ren,Ax.look,Ax.put,reduceCtorEq,↓reduceIte,Nat.reduceEqDiff,Nat.reduceLT,Nat.reduceAdd,List.length_append,List.length_cons,List.length_nil,Option.some.injEq]; try simp
     · simp only [ssT,zav,zaw,setSlot,gOf,AV.ren,renL,Blk.ren,Ax.look,Ax.put,reduceCtorEq,↓reduceIte,Nat.reduceEqDiff,Nat.reduceLT,Nat.reduceAdd,List.length_append,List.length_cons,List.length_nil,Option.some.injEq]; try simp
   · rintro m σ ⟨i,rfl,hi,hb,rfl⟩
     by_cases hil : i < l.length
     · have d2 : decide ((i : Int) < l.length) = true := decide_eq_true (by omega)
       have e1 : ((i : Int) + 1 + 9223372036854775808) % 18446744073709551616 - 9223372036854775808 = ((i + 1 : Nat) : Int) := by omega
       have hs1 := zcb l i hil
       have hd := all_drop (okr Z) l i hil
       rw [hb] at hd
       obtain ⟨r,hr⟩ : ∃ r,l[i] = r := ⟨_,rfl⟩
       rw [hr] at hs1 hd
       obtain ⟨s,k,c,t,a,b⟩ := r
       have hs1 : slot (l.map wsA) i = .agg [.w (.int .i64 s),.str k,.w (.int .i64 c),.w (.int .i64 t),.w (.int .i64 a),.w (.int .i64 b)] := hs1
       have hok : okr Z ⟨s,k,c,t,a,b⟩ = okWB Z s k c t a b := rfl
       cases hv : okWB Z s k c t a b with
       | true =>
         rw [hok,hv,Bool.true_and] at hd
         simp only [go_sem,zad,Nat.reduceAdd,Nat.reduceSub,Nat.reduceMul,Int.reduceToNat,reduceCtorEq,↓reduceIte,Int.reducePow,Nat.reducePow,Int.reduceMod,Nat.reduceLeDiff,Int.reduceLE,Int.reduceNe,Int.reduceEq,Nat.reduceEqDiff,Nat.reduceLT,Nat.reduceBEq,List.map_cons,List.map_nil,List.toList_toArray,Array.toList_append,Option.toArray_some,Option.toArray_none,Bool.and_self,ty,zbd,zbk,mayWS,hle,d2,hs1,e1,hz,hv,Bool.not_true,Bool.not_false,Int.toNat_natCast]
         repeat (refine And.intro (by omega) ?_)
         refine ⟨l.length - (i + 1),_,by omega,zao [0,1,2,3,4] rfl rfl rfl ?_ ?_,i + 1,rfl,by omega,hd.symm,rfl⟩
         · simp only [ssT,zav,zaw,setSlot,gOf,AV.ren,renL,Blk.ren,Ax.look,Ax.put,reduceCtorEq,↓reduceIte,Nat.reduceEqDiff,Nat.reduceLT,Nat.reduceAdd,List.length_append,List.length_cons,List.length_nil,Option.some.injEq]; try simp
         · simp only [ssT,zav,zaw,setSlot,gOf,AV.ren,renL,Blk.ren,Ax.look,Ax.put,reduceCtorEq,↓reduceIte,Nat.reduceEqDiff,Nat.reduceLT,Nat.reduceAdd,List.length_append,List.length_cons,List.length_nil,Option.some.injEq]; try simp
       | false =>
         rw [hok,hv,Bool.false_and] at hd
         rw [if_neg (by rw [hd]; simp)]
         simp only [go_sem,zad,Nat.reduceAdd,Nat.reduceSub,Nat.reduceMul,Int.reduceToNat,reduceCtorEq,↓reduceIte,Int.reducePow,Nat.reducePow,Int.reduceMod,Nat.reduceLeDiff,Int.reduceLE,Int.reduceNe,Int.reduceEq,Nat.reduceEqDiff,Nat.reduceLT,Nat.reduceBEq,List.map_cons,List.map_nil,List.toList_toArray,Array.toList_append,Option.toArray_some,Option.toArray_none,Bool.and_self,ty,zbd,zbk,mayWS,hle,d2,hs1,e1,hz,hv,Bool.not_true,Bool.not_false,Int.toNat_natCast]
         repeat (refine And.intro (by omega) ?_)
         refine ⟨_,Weak.refl _,?_⟩
         simp only [go_sem,zad,Nat.reduceAdd,Nat.reduceSub,Nat.reduceMul,Int.reduceToNat,reduceCtorEq,↓reduceIte,Int.reducePow,Nat.reducePow,Int.reduceMod,Nat.reduceLeDiff,Int.reduceLE,Int.reduceNe,Int.reduceEq,Nat.reduceEqDiff,Nat.reduceLT,Nat.reduceBEq,List.map_cons,List.map_nil,List.toList_toArray,Array.toList_append,Option.toArray_some,Option.toArray_none,Bool.and_self,ty,zbd,zbk]
         exact zbq 2 rfl
     · have d2 : decide ((i : Int) < l.length) = false := decide_eq_false (by omega)
       have hA : l.all (okr Z) = true := by rw [← hb,List.drop_of_length_le (by omega)]; rfl
       rw [if_pos hA]
       simp only [go_sem,zad,Nat.reduceAdd,Nat.reduceSub,Nat.reduceMul,Int.reduceToNat,reduceCtorEq,↓reduceIte,Int.reducePow,Nat.reducePow,Int.reduceMod,Nat.reduceLeDiff,Int.reduceLE,Int.reduceNe,Int.reduceEq,Nat.reduceEqDiff,Nat.reduceLT,Nat.reduceBEq,List.map_cons,List.map_nil,List.toList_toArray,Array.toList_append,Option.toArray_some,Option.toArray_none,Bool.and_self,ty,zbd,zbk,hle,d2]
       refine ⟨_,Weak.refl _,?_⟩
       simp only [go_sem,zad,Nat.reduceAdd,Nat.reduceSub,Nat.reduceMul,Int.reduceToNat,reduceCtorEq,↓reduceIte,Int.reducePow,Nat.reducePow,Int.reduceMod,Nat.reduceLeDiff,Int.reduceLE,Int.reduceNe,Int.reduceEq,Nat.reduceEqDiff,Nat.reduceLT,Nat.reduceBEq,List.map_cons,List.map_nil,List.toList_toArray,Array.toList_append,Option.toArray_some,Option.toArray_none,Bool.and_self,ty,zbd,zbk,hle]
       refine zdr ⟨fun m σ => ∃ i : Nat,m = l.length - i ∧ 1 ≤ i ∧ (i ≤ l.length ∨ i = 1) ∧ risW (l.drop (i - 1)) = risW l ∧
         σ = ⟨[.agg [.w (.int .i64 Z),.w (.int .i64 L),.w (.int .i64 M),.w (.int .i64 D),.sg 6 (l.map wsA) f],.rf 4 5 0 0,.w (.int .i64 0),.junk,.w (.int .i64 i),.junk,.junk,.junk,.junk,.junk,.junk,.junk,.junk,.junk,.junk,.junk,.junk,.junk,.junk,.junk,.junk,.junk,.junk,.junk,.junk,.junk,.junk,.junk,.junk,.junk,.junk,.junk,.junk,.junk,.junk,.junk,.junk,.junk,.junk,.junk,.junk,.junk,.junk,.junk,.junk,.junk,.junk,.junk,.junk,.junk,.junk,.junk,.junk,.junk,.junk,.junk,.junk,.junk,.junk,.junk,.junk,.junk,.junk,.junk,.junk,.junk,.junk,.junk,.junk],[(4,.g 5 [.agg [.w (.int .i64 Z),.w (.int .i64 L),.w (.int .i64 M),.w (.int .i64 D),.sg 6 (l.map wsA) f]])],5⟩,?_,?_⟩
       · refine ⟨_,_,zao [0,1,2,3,4] rfl rfl rfl ?_ ?_,1,rfl,by omega,by omega,rfl,rfl⟩
         · simp only [ssT,zav,zaw,setSlot,gOf,AV.ren,renL,Blk.ren,Ax.look,Ax.put,reduceCtorEq,↓reduceIte,Nat.reduceEqDiff,Nat.reduceLT,Nat.reduceAdd,List.length_append,List.length_cons,List.length_nil,Option.some.injEq]; try simp
         · simp only [ssT,zav,zaw,setSlot,gOf,AV.ren,renL,Blk.ren,Ax.look,Ax.put,reduceCtorEq,↓reduceIte,Nat.reduceEqDiff,Nat.reduceLT,Nat.reduceAdd,List.length_append,List.length_cons,List.length_nil,Option.some.injEq]; try simp
       · rintro m σ ⟨i,rfl,hi1,hi,hb,rfl⟩
         by_cases hil : i < l.length
         · have d2 : decide ((i : Int) < l.length) = true := decide_eq_true (by omega)
           have e1 : ((i : Int) + 1 + 9223372036854775808) % 18446744073709551616 - 9223372036854775808 = ((i + 1 : Nat) : Int) := by omega
           have e2 : ((i : Int) - 1 + 9223372036854775808) % 18446744073709551616 - 9223372036854775808 = ((i - 1 : Nat) : Int) := by omega
           have hs1 := zcb l i hil
           have hs2 := zcb l (i - 1) (by omega)
           have hd := risW_drop l (i - 1) (by omega)
           rw [hb] at hd
           have hi11 : i - 1 + 1 = i := by omega
           simp only [hi11] at hd
           obtain ⟨p,hp1⟩ : ∃ x,l[i] = x := ⟨_,rfl⟩
           obtain ⟨q,hq1⟩ : ∃ x,l[i - 1]'(by omega) = x := ⟨_,rfl⟩
           rw [hp1] at hs1
           rw [hq1] at hs2
           rw [hp1,hq1] at hd
           obtain ⟨s1,k1,c1,t1,a1,b1⟩ := p
           obtain ⟨s2,k2,c2,t2,a2,b2⟩ := q
           have hs1 : slot (l.map wsA) i = .agg [.w (.int .i64 s1),.str k1,.w (.int .i64 c1),.w (.int .i64 t1),.w (.int .i64 a1),.w (.int .i64 b1)] := hs1
           have hs2 : slot (l.map wsA) (i - 1) = .agg [.w (.int .i64 s2),.str k2,.w (.int .i64 c2),.w (.int .i64 t2),.w (.int .i64 a2),.w (.int .i64 b2)] := hs2
           have hd : risW l = (ahB s2 k2 s1 k1 && risW (l.drop i)) := hd
           cases hB : ahB s2 k2 s1 k1 with
           | true =>
             rw [hB,Bool.true_and] at hd
             simp only [go_sem,zad,Nat.reduceAdd,Nat.reduceSub,Nat.reduceMul,Int.reduceToNat,reduceCtorEq,↓reduceIte,Int.reducePow,Nat.reducePow,Int.reduceMod,Nat.reduceLeDiff,Int.reduceLE,Int.reduceNe,Int.reduceEq,Nat.reduceEqDiff,Nat.reduceLT,Nat.reduceBEq,List.map_cons,List.map_nil,List.toList_toArray,Array.toList_append,Option.toArray_some,Option.toArray_none,Bool.and_self,ty,zbd,zbk,inS,mayWS,raheadS,hle,d2,hs1,hs2,e1,e2,hB,Bool.not_true,Bool.not_false,Int.toNat_natCast]
             repeat (refine And.intro (by omega) ?_)
             refine ⟨l.length - (i + 1),_,by omega,zao [0,1,2,3,4] rfl rfl rfl ?_ ?_,i + 1,rfl,by omega,by omega,?_,rfl⟩
             · simp only [ssT,zav,zaw,setSlot,gOf,AV.ren,renL,Blk.ren,Ax.look,Ax.put,reduceCtorEq,↓reduceIte,Nat.reduceEqDiff,Nat.reduceLT,Nat.reduceAdd,List.length_append,List.length_cons,List.length_nil,Option.some.injEq]; try simp
             · simp only [ssT,zav,zaw,setSlot,gOf,AV.ren,renL,Blk.ren,Ax.look,Ax.put,reduceCtorEq,↓reduceIte,Nat.reduceEqDiff,Nat.reduceLT,Nat.reduceAdd,List.length_append,List.length_cons,List.length_nil,Option.some.injEq]; try simp
             · show risW (l.drop i) = _
               exact hd.symm
           | false =>
             rw [hB,Bool.false_and] at hd
             rw [if_neg (by rw [hd]; simp)]
             simp only [go_sem,zad,Nat.reduceAdd,Nat.reduceSub,Nat.reduceMul,Int.reduceToNat,reduceCtorEq,↓reduceIte,Int.reducePow,Nat.reducePow,Int.reduceMod,Nat.reduceLeDiff,Int.reduceLE,Int.reduceNe,Int.reduceEq,Nat.reduceEqDiff,Nat.reduceLT,Nat.reduceBEq,List.map_cons,List.map_nil,List.toList_toArray,Array.toList_append,Option.toArray_some,Option.toArray_none,Bool.and_self,ty,zbd,zbk,inS,mayWS,raheadS,hle,d2,hs1,hs2,e1,e2,hB,Bool.not_true,Bool.not_false,Int.toNat_natCast]
             repeat (refine And.intro (by omega) ?_)
             refine ⟨_,Weak.refl _,?_⟩
             simp only [go_sem,zad,Nat.reduceAdd,Nat.reduceSub,Nat.reduceMul,Int.reduceToNat,reduceCtorEq,↓reduceIte,Int.reducePow,Nat.reducePow,Int.reduceMod,Nat.reduceLeDiff,Int.reduceLE,Int.reduceNe,Int.reduceEq,Nat.reduceEqDiff,Nat.reduceLT,Nat.reduceBEq,List.map_cons,List.map_nil,List.toList_toArray,Array.toList_append,Option.toArray_some,Option.toArray_none,Bool.and_self,ty,zbd,zbk]
             exact zbq 2 rfl
         · have d2 : decide ((i : Int) < l.length) = false := decide_eq_false (by omega)
           have hr : risW l = true := by rw [← hb]; exact risW_last l _ (by omega)
           rw [if_pos hr]
           simp only [go_sem,zad,Nat.reduceAdd,Nat.reduceSub,Nat.reduceMul,Int.reduceToNat,reduceCtorEq,↓reduceIte,Int.reducePow,Nat.reducePow,Int.reduceMod,Nat.reduceLeDiff,Int.reduceLE,Int.reduceNe,Int.reduceEq,Nat.reduceEqDiff,Nat.reduceLT,Nat.reduceBEq,List.map_cons,List.map_nil,List.toList_toArray,Array.toList_append,Option.toArray_some,Option.toArray_none,Bool.and_self,ty,zbd,zbk,hle,d2]
           refine ⟨_,Weak.refl _,?_⟩
           simp only [go_sem,zad,Nat.reduceAdd,Nat.reduceSub,Nat.reduceMul,Int.reduceToNat,reduceCtorEq,↓reduceIte,Int.reducePow,Nat.reducePow,Int.reduceMod,Nat.reduceLeDiff,Int.reduceLE,Int.reduceNe,Int.reduceEq,Nat.reduceEqDiff,Nat.reduceLT,Nat.reduceBEq,List.map_cons,List.map_nil,List.toList_toArray,Array.toList_append,Option.toArray_some,Option.toArray_none,Bool.and_self,ty,zbd,zbk]
           exact zbq 2 rfl
 · exact hp.elim
end
end Go.Proofs.Ytlpjdgkpapjldaa
namespace Go.Proofs.Ytlpjdgkpapjldaa
open Ax
def empW : List AV → Bool
 | [] => true
 | _ => false
def cloneGWS : zay
 | [.sg 6 xs f],[] => ⟨xs.length ≤ 1000000 ∧ ∃ l : List WS,xs = l.map wsA,bif empW xs then .sg 6 [] true else .ms 0 6 0 xs.length,bif empW xs then [] else [.g 6 xs]⟩
 | _,_ => zdj
def cloneWPl0 : XPlan := fun id => match id with
 | 1 => .tst [false,true]
 | 3 => .tst [true,false,true]
 | _ => .std
def cloneWPl : XPlan := fun id => match id with
 | 1 => .tst [false,true]
 | 3 => .tst [true]
 | _ => .std
theorem sg_trueW {w : World} {loc : Ax.Loc} {v : Value} {s : Nat} (s' : Nat) (h : R w loc (.sg s [] true) v) : R w loc (.sg s' [] true) v := by
 cases h with
 | sg _ _ _ a cap cs hd hs hc hl hx hh => exact .sg s' [] true a cap cs hd (by simp) hc hl hx hh
theorem zcd {w : World} {loc : Ax.Loc} {v : Value} {s : Nat} (s' : Nat) (h : R w loc (.sg s [] true) v) : R w loc (.sg s' [] false) v := by
 cases h with
 | sg _ _ _ a cap cs hd hs hc hl hx hh => exact .sg s' [] false a cap cs ⟨hd.le,hd.top,fun h => by cases h⟩ (by simp) hc hl hx hh
section
set_option maxRecDepth 100000
set_option maxHeartbeats 4000000
theorem cloneGW_sound : zbz Try.prog 49 cloneGWS := by
 refine zdq (S := noS) (SO := noO) (T := ty) zdc ty_ok noS_ok noO_ok Try.func49 (c := Try.f49.body.getD .skip) (by kernel_rfl) (fun xs pins hp _ => ?_)
 unfold cloneGWS at hp ⊢
 split at hp
 · rename_i xs f _
   obtain ⟨hL,l,rfl⟩ := hp
   rw [List.length_map] at hL
   have hl6 : (l.map wsA).length = l.length := by simp
   cases l with
   | nil =>
     refine ⟨by simp,cloneWPl0,by kernel_rfl,?_⟩
     unfold Try.f49
     simp only [go_sem,zaa,Nat.reduceAdd,Nat.reduceSub,Nat.reduceMul,Int.reduceToNat,reduceCtorEq,↓reduceIte,Int.reducePow,Nat.reducePow,Int.reduceMod,Nat.reduceLeDiff,Int.reduceLE,Int.reduceNe,Int.reduceEq,Nat.reduceEqDiff,Nat.reduceLT,Nat.reduceBEq,List.map_cons,List.map_nil,List.toList_toArray,Array.toList_append,Option.toArray_some,Option.toArray_none,Bool.and_self,ty,noS,cloneWPl0,specOp,List.map_nil,List.length_nil,empW,cond_true]
     repeat (refine And.intro (by omega) ?_)
     intro b
     refine ⟨fun hb => ?_,fun hb => ?_⟩
     · refine ⟨_,zbg 2 (.sg 6 [] true) (fun w loc v h => sg_trueW 6 h),?_⟩
       simp only [go_sem,zaa,Nat.reduceAdd,Nat.reduceSub,Nat.reduceMul,Int.reduceToNat,reduceCtorEq,↓reduceIte,Int.reducePow,Nat.reducePow,Int.reduceMod,Nat.reduceLeDiff,Int.reduceLE,Int.reduceNe,Int.reduceEq,Nat.reduceEqDiff,Nat.reduceLT,Nat.reduceBEq,List.map_cons,List.map_nil,List.toList_toArray,Array.toList_append,Option.toArray_some,Option.toArray_none,Bool.and_self,ty,noS]
     · refine ⟨_,zbg 2 (.sg 6 [] true) (fun w loc v h => sg_trueW 6 h),?_⟩
       simp only [go_sem,zaa,Nat.reduceAdd,Nat.reduceSub,Nat.reduceMul,Int.reduceToNat,reduceCtorEq,↓reduceIte,Int.reducePow,Nat.reducePow,Int.reduceMod,Nat.reduceLeDiff,Int.reduceLE,Int.reduceNe,Int.reduceEq,Nat.reduceEqDiff,Nat.reduceLT,Nat.reduceBEq,List.map_cons,List.map_nil,List.toList_toArray,Array.toList_append,Option.toArray_some,Option.toArray_none,Bool.and_self,ty,noS]
   | cons c l =>
     refine ⟨by simp,cloneWPl,by kernel_rfl,?_⟩
     have hem : empW ((c :: l).map wsA) = false := rfl
     have hz : (c :: l).length ≠ 0 := by simp
     generalize hls : c :: l = ls at *
     have htop : ls.length ≤ top := by unfold top; omega
     unfold Try.f49
     simp only [go_sem,zaa,Nat.reduceAdd,Nat.reduceSub,Nat.reduceMul,Int.reduceToNat,reduceCtorEq,↓reduceIte,Int.reducePow,Nat.reducePow,Int.reduceMod,Nat.reduceLeDiff,Int.reduceLE,Int.reduceNe,Int.reduceEq,Nat.reduceEqDiff,Nat.reduceLT,Nat.reduceBEq,List.map_cons,List.map_nil,List.toList_toArray,Array.toList_append,Option.toArray_some,Option.toArray_none,Bool.and_self,ty,noS,cloneWPl,specOp,hl6]
     repeat (refine And.intro (by omega) ?_)
     intro b hb
     obtain rfl : b = false := by cases b with | false => rfl | true => exact absurd (hb rfl) hz
     simp only [go_sem,zaa,Nat.reduceAdd,Nat.reduceSub,Nat.reduceMul,Int.reduceToNat,reduceCtorEq,↓reduceIte,Int.reducePow,Nat.reducePow,Int.reduceMod,Nat.reduceLeDiff,Int.reduceLE,Int.reduceNe,Int.reduceEq,Nat.reduceEqDiff,Nat.reduceLT,Nat.reduceBEq,List.map_cons,List.map_nil,List.toList_toArray,Array.toList_append,Option.toArray_some,Option.toArray_none,Bool.and_self,ty,noS,cloneWPl,specOp,hl6,hem,cond_false]
     refine ⟨htop,_,Weak.refl _,?_⟩
     simp only [go_sem,zaa,Nat.reduceAdd,Nat.reduceSub,Nat.reduceMul,Int.reduceToNat,reduceCtorEq,↓reduceIte,Int.reducePow,Nat.reducePow,Int.reduceMod,Nat.reduceLeDiff,Int.reduceLE,Int.reduceNe,Int.reduceEq,Nat.reduceEqDiff,Nat.reduceLT,Nat.reduceBEq,List.map_cons,List.map_nil,List.toList_toArray,Array.toList_append,Option.toArray_some,Option.toArray_none,Bool.and_self,ty,noS,hl6,hem,cond_false,zal]
 · exact hp.elim
def insNWS : zay
 | [.sg 6 [] true,.w (.int .i64 0),.sg 6 [.agg [.w (.int .i64 s),.str k,.w (.int .i64 c),.w (.int .i64 t),.w (.int .i64 a),.w (.int .i64 b)]] f],[] => ⟨True,.ms 0 6 0 1,[.g 6 [.agg [.w (.int .i64 s),.str k,.w (.int .i64 c),.w (.int .i64 t),.w (.int .i64 a),.w (.int .i64 b)]]]⟩
 | _,_ => zdj
theorem eq00W : decide ((0:Int) = ((0:Nat):Int)) = true := rfl
theorem eq10W : decide (((1:Nat):Int) = (0:Int)) = false := rfl
theorem eq01W : decide ((0:Int) = ((1:Nat):Int)) = false := rfl
theorem insNW_sound : zbz Try.prog 51 insNWS := by
 refine zdu (S := noS) (T := ty) zdc ty_ok noS_ok Try.func51 (c := Try.f51.body.getD .skip) (by kernel_rfl) (by kernel_rfl) (fun xs pins hp _ => ?_)
 unfold insNWS at hp ⊢
 split at hp
 · rename_i s k c t a b f _
   refine ⟨by simp,?_⟩
   unfold Try.f51
   simp only [go_sem,coe,zac,Nat.reduceAdd,Nat.reduceSub,Nat.reduceMul,Int.reduceToNat,reduceCtorEq,↓reduceIte,Int.reducePow,Nat.reducePow,Int.reduceMod,Nat.reduceLeDiff,Int.reduceLE,Int.reduceNe,Int.reduceEq,Nat.reduceEqDiff,Nat.reduceLT,Nat.reduceBEq,ty,noS,eq00W,eq01W,eq10W]
   decide
 · exact hp.elim
end
end Go.Proofs.Ytlpjdgkpapjldaa
namespace Go.Proofs.Ytlpjdgkpapjldaa
open Ax
theorem bl_irr : ∀ g : List UInt8,Op.bytesLess g g = false
 | [] => rfl
 | a :: r => by
   have h1 : ¬ a < a := by simp
   simp [Op.bytesLess,bl_irr r,h1]
theorem bl_trans : ∀ {x y z : List UInt8},Op.bytesLess x y = true → Op.bytesLess y z = true → Op.bytesLess x z = true
 | [],[],_,h1,_ => by simp [Op.bytesLess] at h1
 | _ :: _,[],_,h1,_ => by simp [Op.bytesLess] at h1
 | _,_ :: _,[],_,h2 => by simp [Op.bytesLess] at h2
 | [],_ :: _,_ :: _,_,_ => rfl
 | a :: x,b :: y,c :: z,h1,h2 => by
   simp only [Op.bytesLess,Bool.or_eq_true,decide_eq_true_eq,Bool.and_eq_true,beq_iff_eq] at *
   rcases h1 with h1 | ⟨rfl,h1⟩
   · rcases h2 with h2 | ⟨rfl,h2⟩
     · rw [UInt8.lt_iff_toNat_lt] at *
       exact .inl (by omega)
     · exact .inl h1
   · rcases h2 with h2 | ⟨rfl,h2⟩
     · exact .inl h2
     · exact .inr ⟨rfl,bl_trans h1 h2⟩
theorem bl_tot : ∀ {x y : List UInt8},x ≠ y → Op.bytesLess x y = false → Op.bytesLess y x = true
 | [],[],h,_ => absurd rfl h
 | [],_ :: _,_,h1 => by simp [Op.bytesLess] at h1
 | _ :: _,[],_,_ => rfl
 | a :: x,b :: y,h,h1 => by
   simp only [Op.bytesLess,Bool.or_eq_true,Bool.or_eq_false_iff,decide_eq_true_eq,decide_eq_false_iff_not,Bool.and_eq_true,beq_iff_eq] at *
   by_cases hab : a = b
   · subst hab
     refine .inr ⟨rfl,bl_tot (fun e => h (by rw [e])) ?_⟩
     have := h1.2
     simpa using this
   · left
     rw [UInt8.lt_iff_toNat_lt] at *
     have : a.toNat ≠ b.toNat := fun e => hab (UInt8.toNat_inj.1 e)
     have := h1.1
     omega
theorem ah_irr (s : Int) (k : List UInt8) : ahB s k s k = false := by
 unfold ahB; rw [if_pos rfl]; exact bl_irr k
theorem ah_trans {s1 s2 s3 : Int} {k1 k2 k3 : List UInt8} (h1 : ahB s1 k1 s2 k2 = true) (h2 : ahB s2 k2 s3 k3 = true) : ahB s1 k1 s3 k3 = true := by
 unfold ahB at *
 by_cases a : s1 = s2
 · rw [if_pos a] at h1
   by_cases b : s2 = s3
   · rw [if_pos b] at h2
     rw [if_pos (a.trans b)]
     exact bl_trans h1 h2
   · rw [if_neg b] at h2
     rw [if_neg (by omega),a]
     exact h2
 · rw [if_neg a] at h1
   have h1 := of_decide_eq_true h1
   by_cases b : s2 = s3
   · rw [if_neg (by omega)]
     exact decide_eq_true (by omega)
   · rw [if_neg b] at h2
     have h2 := of_decide_eq_true h2
     rw [if_neg (by omega)]
     exact decide_eq_true (by omega)
theorem ah_tot {s1 s2 : Int} {k1 k2 : List UInt8} (hne : ¬ (s1 = s2 ∧ k1 = k2)) (h : ahB s1 k1 s2 k2 = false) : ahB s2 k2 s1 k1 = true := by
 unfold ahB at *
 by_cases a : s1 = s2
 · rw [if_pos a] at h
   rw [if_pos a.symm]
   exact bl_tot (fun e => hne ⟨a,e⟩) h
 · rw [if_neg a] at h
   have h := of_decide_eq_false h
   rw [if_neg (Ne.symm a)]
   exact decide_eq_true (by omega)
theorem ris_tail {r : WS} {l : List WS} (h : risW (r :: l) = true) : risW l = true := by
 cases l with
 | nil => rfl
 | cons x l => simp only [risW,Bool.and_eq_true] at h; exact h.2
theorem ris_all : ∀ {l : List WS} {r : WS},risW (r :: l) = true → ∀ x ∈ l,ahB r.s r.k x.s x.k = true
 | [],r,_,x,hx => by simp at hx
 | y :: l,r,h,x,hx => by
   have h0 := h
   simp only [risW,Bool.and_eq_true] at h
   rcases List.mem_cons.1 hx with rfl | hx
   · exact h.1
   · exact ah_trans h.1 (ris_all h.2 x hx)
def eqW (s : Int) (k : List UInt8) (r : WS) : Bool := decide (r.s = s ∧ r.k = k)
def naW (s : Int) (k : List UInt8) (r : WS) : Bool := !ahB r.s r.k s k
def plW (s : Int) (k : List UInt8) (l : List WS) : Nat := l.findIdx (naW s k)
def thW (s : Int) (k : List UInt8) (l : List WS) : Bool := l.any (eqW s k)
theorem plW_le (s : Int) (k : List UInt8) (l : List WS) : plW s k l ≤ l.length := List.findIdx_le_length
theorem thW_idx (s : Int) (k : List UInt8) (l : List WS) : thW s k l = decide (l.findIdx (eqW s k) < l.length) := by
 unfold thW
 cases h : l.any (eqW s k) with
 | true =>
   obtain ⟨x,hx,hp⟩ := List.any_eq_true.1 h
   exact (decide_eq_true (List.findIdx_lt_length_of_exists ⟨x,hx,hp⟩)).symm
 | false =>
   refine (decide_eq_false ?_).symm
   intro hl
   have h1 := List.findIdx_getElem (w := hl)
   have := List.any_eq_true.2 ⟨_,List.getElem_mem hl,h1⟩
   rw [h] at this; cases this
theorem eq_pl (s : Int) (k : List UInt8) : ∀ (l : List WS),risW l = true → thW s k l = true → l.findIdx (eqW s k) = plW s k l
 | [],_,h => by cases h
 | r :: l,hr,h => by
   unfold plW
   rw [List.findIdx_cons,List.findIdx_cons]
   by_cases he : r.s = s ∧ r.k = k
   · have e1 : eqW s k r = true := decide_eq_true he
     have e2 : naW s k r = true := by unfold naW; rw [he.1,he.2,ah_irr]; rfl
     rw [e1,e2]
     rfl
   · have e1 : eqW s k r = false := decide_eq_false he
     have h : thW s k l = true := by
       unfold thW at h ⊢
       rw [List.any_cons,e1,Bool.false_or] at h
       exact h
     obtain ⟨x,hx,hp⟩ := List.any_eq_true.1 h
     have hp := of_decide_eq_true hp
     have ha := ris_all hr x hx
     rw [hp.1,hp.2] at ha
     have e2 : naW s k r = false := by unfold naW; rw [ha]; rfl
     rw [e1,e2]
     have := eq_pl s k l (ris_tail hr) h
     unfold plW at this
     simp only [cond_false,this]
abbrev SM := List ((Int × List UInt8) × Int)
def kvSP (p : (Int × List UInt8) × Int) : AV × AV := (.agg [.w (.int .i64 p.1.1),.str p.1.2],.w (.int .i64 p.2))
def kvS (m : SM) : List (AV × AV) := m.map kvSP
def enS : List WS → Nat → SM
 | [],_ => []
 | r :: l,n => ((r.s,r.k),(n : Int)) :: enS l (n + 1)
theorem enS_snoc (r : WS) : ∀ (l : List WS) (n : Nat),enS (l ++ [r]) n = enS l n ++ [((r.s,r.k),((n + l.length : Nat) : Int))]
 | [],n => by simp [enS]
 | x :: l,n => by
   simp only [List.cons_append,enS,enS_snoc r l (n + 1),List.length_cons]
   rw [show n + 1 + l.length = n + (l.length + 1) by omega]
def mpS (o : Option (Nat × Int)) : Option (Nat × AV) := o.map fun p => (p.1,.w (.int .i64 p.2))
def ixS (s : Int) (k : List UInt8) : SM → Nat → Option (Nat × Int)
 | [],_ => none
 | p :: r,i => if s = p.1.1 ∧ k = p.1.2 then some (i,p.2) else ixS s k r (i + 1)
theorem ixS_en (s : Int) (k : List UInt8) : ∀ (l : List WS) (n i : Nat),ixS s k (enS l n) i = if thW s k l = true then some (i + l.findIdx (eqW s k),((n + l.findIdx (eqW s k) : Nat) : Int)) else none
 | [],n,i => rfl
 | r :: l,n,i => by
   simp only [enS,ixS]
   unfold thW
   rw [List.any_cons,List.findIdx_cons]
   by_cases he : r.s = s ∧ r.k = k
   · have e1 : eqW s k r = true := decide_eq_true he
     rw [if_pos ⟨he.1.symm,he.2.symm⟩,e1,Bool.true_or,if_pos rfl]
     simp
   · have e1 : eqW s k r = false := decide_eq_false he
     rw [if_neg (fun h => he ⟨h.1.symm,h.2.symm⟩),ixS_en s k l (n + 1) (i + 1),e1,Bool.false_or]
     unfold thW
     by_cases ht : l.any (eqW s k) = true
     · rw [if_pos ht,if_pos ht]
       simp only [cond_false]
       rw [show i + 1 + l.findIdx (eqW s k) = i + (l.findIdx (eqW s k) + 1) by omega,show n + 1 + l.findIdx (eqW s k) = n + (l.findIdx (eqW s k) + 1) by omega]
     · rw [if_neg ht,if_neg ht]
theorem ris_take : ∀ (l : List WS) (j : Nat) (h : j < l.length),risW l = true → ∀ x ∈ l.take j,ahB x.s x.k l[j].s l[j].k = true
 | [],_,h,_,_,_ => by simp at h
 | r :: l,0,_,_,x,hx => by simp at hx
 | r :: l,j + 1,h,hr,x,hx => by
   simp only [List.take_succ_cons,List.mem_cons] at hx
   have h' : j < l.length := by simpa using h
   rcases hx with rfl | hx
   · exact ris_all hr _ (List.getElem_mem h')
   · exact ris_take l j h' (ris_tail hr) x hx
theorem ix_new (l : List WS) (j : Nat) (h : j < l.length) (hr : risW l = true) : ixS l[j].s l[j].k (enS (l.take j) 0) 0 = none := by
 rw [ixS_en]
 refine if_neg ?_
 intro ht
 obtain ⟨x,hx,hp⟩ := List.any_eq_true.1 ht
 have hp := of_decide_eq_true hp
 have this := ris_take l j h hr x hx
 rw [hp.1,hp.2,ah_irr] at this
 cases this
theorem find_kvS (s : Int) (k : List UInt8) : ∀ (m : SM) (i : Nat),zcf ty 71 (.agg [.w (.int .i64 s),.str k]) (kvS m) i = (True,mpS (ixS s k m i))
 | [],i => rfl
 | p :: r,i => by
   have h := find_kvS s k r (i + 1)
   have he : eqV ty 4 71 (.agg [.w (.int .i64 s),.str k]) (.agg [.w (.int .i64 p.1.1),.str p.1.2]) = (True,decide (s = p.1.1 ∧ k = p.1.2)) := by
     simp only [go_sem,coe,zac,Nat.reduceAdd,Nat.reduceSub,Nat.reduceMul,Int.reduceToNat,reduceCtorEq,↓reduceIte,Int.reducePow,Nat.reducePow,Int.reduceMod,Nat.reduceLeDiff,Int.reduceLE,Int.reduceNe,Int.reduceEq,Nat.reduceEqDiff,Nat.reduceLT,Nat.reduceBEq,eqV,eqF,ty]
     try simp
   show zcf ty 71 (.agg [.w (.int .i64 s),.str k]) (kvSP p :: kvS r) i = _
   unfold zcf
   simp only [kvSP,he,h,ixS]
   by_cases hk : s = p.1.1 ∧ k = p.1.2
   · simp [hk,mpS]
   · simp [hk,mpS]
end Go.Proofs.Ytlpjdgkpapjldaa
namespace Go.Proofs.Ytlpjdgkpapjldaa
namespace Ax
open Go.RowKit
structure InsWalks (P : Program) (f : FuncId) (s : Nat) (E : TypeId) (z : List Value) (by' : Nat) : Prop where
 shift : ∀ (b n c i vb vc : Nat) (cs vs : List Value) (w : World),i < n → n + 1 ≤ c → c ≤ 9223372036854775807 → vb ≠ b → cs.length = n * s → vs.length = s →
   (∀ j v,cs[j]? = some v → w.cell? ⟨b,j,none⟩ = some v) → (∀ j,j < (n + 1) * s → (w.cell? ⟨b,j,none⟩).isSome = true) → (∀ j,w.frozen? ⟨b,j,none⟩ = false) →
   (∀ j v,vs[j]? = some v → w.cell? ⟨vb,j,none⟩ = some v) → (∀ v ∈ cs,v.oneCell' = true) → (∀ v ∈ vs,v.oneCell' = true) →
   ∀ (tA tB : TypeId) (kA kB : Nat),w.shape? vb = some (tA,kA) → w.shape? b = some (tB,kB) → kB ≠ 0 → w.frozen? ⟨vb,0,none⟩ = false → w.frozen? ⟨vb,kA,none⟩ = false →
   Calls P f #[.slice (some ⟨b,0,none⟩) n c,.int .i64 i,.slice (some ⟨vb,0,none⟩) 1 vc] w fun e w' =>
     e = .returned (.slice (some ⟨b,0,none⟩) (n + 1) c) ∧ w' = (w.drew.setCells b ((i + 1) * s) (cs.drop (i * s))).setCells b (i * s) vs
 endroom : ∀ (b n c vb vc : Nat) (vs : List Value) (w : World),n + 1 ≤ c → c ≤ 9223372036854775807 → vs.length = s →
   (∀ j,j < (n + 1) * s → (w.cell? ⟨b,j,none⟩).isSome = true) → (∀ j,w.frozen? ⟨b,j,none⟩ = false) → (∀ j v,vs[j]? = some v → w.cell? ⟨vb,j,none⟩ = some v) → (∀ v ∈ vs,v.oneCell' = true) →
   Calls P f #[.slice (some ⟨b,0,none⟩) n c,.int .i64 n,.slice (some ⟨vb,0,none⟩) 1 vc] w fun e w' =>
     e = .returned (.slice (some ⟨b,0,none⟩) (n + 1) c) ∧ w' = w.setCells b (n * s) vs
 endgrow : ∀ (b o n c vb vc : Nat) (cs vs : List Value) (w : World),n ≤ c → c < n + 1 → (n + 1) * by' ≤ 140737488355328 → cs.length = n * s → vs.length = s →
   (∀ j v,cs[j]? = some v → w.cell? ⟨b,o + j,none⟩ = some v) → (∀ j v,vs[j]? = some v → w.cell? ⟨vb,j,none⟩ = some v) → (∀ v ∈ vs,v.oneCell' = true) →
   Calls P f #[.slice (some ⟨b,o,none⟩) n c,.int .i64 n,.slice (some ⟨vb,0,none⟩) 1 vc] w fun e w' =>
     e = .returned (.slice (some ⟨w.heap.size,0,none⟩) (n + 1) (grownCap w (n + 1) c E)) ∧
     w' = w.drew.alloc (.cells ((cs ++ vs).toArray ++ Builtin.zeroCells (Value.agg z.toArray).cells (grownCap w (n + 1) c E - (n + 1))) E)
 grow : ∀ (b n c i vb vc : Nat) (cs vs : List Value) (w : World),i < n → n ≤ c → c < n + 1 → (n + 1) * by' ≤ 140737488355328 → cs.length = n * s → vs.length = s →
   (∀ j v,cs[j]? = some v → w.cell? ⟨b,j,none⟩ = some v) → (∀ j v,vs[j]? = some v → w.cell? ⟨vb,j,none⟩ = some v) → (∀ v ∈ cs,v.oneCell' = true) → (∀ v ∈ vs,v.oneCell' = true) →
   Calls P f #[.slice (some ⟨b,0,none⟩) n c,.int .i64 i,.slice (some ⟨vb,0,none⟩) 1 vc] w fun e w' =>
     e = .returned (.slice (some ⟨w.heap.size,0,none⟩) (n + 1) (grownCap w (n + 1) c E)) ∧
     w' = (((w.alloc (.cells ((cs.take (i * s)).toArray ++ Builtin.zeroCells (Value.agg z.toArray).cells (n + 1 - i) ++ Builtin.zeroCells (Value.agg z.toArray).cells (grownCap w (n + 1) c E - (n + 1))) E)).drew.setCells w.heap.size (i * s) vs).drew).setCells w.heap.size ((i + 1) * s) (cs.drop (i * s))
theorem setC (P : Program) {w : World} {b : Nat} {cur : Array Value} {e : TypeId} {fz : Nat × Nat} (o : Nat) (vs : List Value) (hw : w.heap[b]? = some (.cells cur e fz)) (hf : fz.1 = fz.2) (hl : o + vs.length ≤ cur.size) (h1 : ∀ v ∈ vs,one v = true) :
   ∃ cu,(w.setCells b o vs).heap[b]? = some (.cells cu e fz) ∧ cu.size = cur.size ∧ (∀ j,j < cur.size → cu[j]? = if o ≤ j ∧ j < o + vs.length then vs[j - o]? else cur[j]?) ∧ (∀ c,c ≠ b → (w.setCells b o vs).heap[c]? = w.heap[c]?) ∧
     (w.setCells b o vs).heap.size = w.heap.size ∧ (w.setCells b o vs).os = w.os ∧ (w.setCells b o vs).tape = w.tape ∧ (w.setCells b o vs).output = w.output := by
 obtain ⟨w2,cu,r1,r2,r3,r4,r5,r6,r7,r8,r9⟩ := zbp (P := P) b o e fz vs 0 cur w hw (fz_free (p := True) (.inl hf)) (by omega) h1
 have hst := run_storeCells_cells (P := P) b o vs 0 w (fun j hj => by rw [show o + 0 + j = o + j by omega]; simp [World.cell?,hw,Array.getElem?_eq_getElem (show o + j < cur.size by omega)])
   (fun j hj => by simp only [World.frozen?,hw]; simp; omega) h1
 rw [r1] at hst
 injection hst with _ hst
 subst hst
 exact ⟨cu,r2,r3,by simpa using r9,r4,r5,r6,r7,r8⟩
theorem one_set {cur cu : Array Value} {o : Nat} {vs : List Value} (hs : cu.size = cur.size) (h : ∀ j,j < cur.size → cu[j]? = if o ≤ j ∧ j < o + vs.length then vs[j - o]? else cur[j]?) (h1 : ∀ v ∈ vs,one v = true)
   (h0 : ∀ (j : Nat) (h : j < cur.size),one cur[j] = true) : ∀ (j : Nat) (h : j < cu.size),one cu[j] = true := by
 intro j hj
 have hj' : j < cur.size := by omega
 have h9 := h j hj'
 rw [Array.getElem?_eq_getElem hj] at h9
 split at h9
 · obtain ⟨hlt,h10⟩ := List.getElem?_eq_some_iff.1 h9.symm
   rw [← h10]; exact h1 _ (List.getElem_mem hlt)
 · rw [Array.getElem?_eq_getElem hj'] at h9
   injection h9 with h9
   rw [h9]; exact h0 j hj'
structure InsOut (w : World) (b : Nat) (cur vur : Array Value) (n i s : Nat) (b2 c2 : Nat) (w' : World) : Prop where
 cells : ∃ cu e2 fz2,w'.heap[b2]? = some (.cells cu e2 fz2) ∧ fz2.1 = fz2.2 ∧ c2 * s ≤ cu.size ∧ (∀ (j : Nat) (h : j < cu.size),one cu[j] = true) ∧
   ∀ j,j < (n + 1) * s → cu[j]? = if j < i * s then cur[j]? else if j < (i + 1) * s then vur[j - i * s]? else cur[j - s]?
 at_ : (b2 = b ∨ w.heap.size ≤ b2) ∧ b2 < w'.heap.size
 le : n + 1 ≤ c2
 top : c2 ≤ maxLen
 os : w'.os = w.os
 tape : w'.tape = w.tape
 output : w'.output = w.output
 size : w.heap.size ≤ w'.heap.size
 same : ∀ k,k < w.heap.size → k ≠ b → w'.heap[k]? = w.heap[k]?
 shape : ∀ c e f,w.heap[b]? = some (.cells c e f) → ∃ c' f',w'.heap[b]? = some (.cells c' e f') ∧ c'.size = c.size
def InsLaw (P : Program) (f : FuncId) (s : Nat) : Prop :=
 ∀ (w : World) (b o n c i vb vc : Nat) (cur vur : Array Value) (e ve : TypeId) (fz vfz : Nat × Nat),w.heap[b]? = some (.cells cur e fz) → fz.1 = fz.2 → w.heap[vb]? = some (.cells vur ve vfz) → vfz.1 = vfz.2 → vb ≠ b →
   (∀ (j : Nat) (h : j < cur.size),one cur[j] = true) → (∀ (j : Nat) (h : j < vur.size),one vur[j] = true) → (0 < c → o = 0) → c * s ≤ cur.size → s ≤ vur.size → n ≤ c → i ≤ n → n ≤ 1000000 → c ≤ maxLen →
   Calls P f #[.slice (some ⟨b,o,none⟩) n c,.int .i64 i,.slice (some ⟨vb,0,none⟩) 1 vc] w fun r w' => ∃ b2 c2,r = .returned (.slice (some ⟨b2,0,none⟩) (n + 1) c2) ∧ InsOut w b cur vur n i s b2 c2 w'
theorem heap_lt {w : World} {b : Nat} {x : Obj} (h : w.heap[b]? = some x) : b < w.heap.size := by
 rcases Nat.lt_or_ge b w.heap.size with h' | h'
 · exact h'
 · rw [Array.getElem?_eq_none h'] at h; cases h
theorem ins_law {P : Program} {f : FuncId} {s : Nat} {E : TypeId} {z : List Value} {by' : Nat} (hW : InsWalks P f s E z by') (hs : 0 < s) (hz : z.length = s) (hz1 : ∀ v ∈ z,one v = true) (hby : by' ≤ 100000) : InsLaw P f s := by
 intro w b o n c i vb vc cur vur e ve fz vfz hw hf hvw hvf hvb h1 h1v ho hcap hvs hnc hin hn htop
 have hz0 : z ≠ [] := by intro h; subst h; simp at hz; omega
 have hns : n * s ≤ c * s := Nat.mul_le_mul_right _ hnc
 have hins : i * s ≤ n * s := Nat.mul_le_mul_right _ hin
 have hm1 : ∀ x,(x + 1) * s = x * s + s := fun x => Nat.succ_mul x s
 have hfr : ∀ j,w.frozen? ⟨b,j,none⟩ = false := fun j => by simp only [World.frozen?,hw]; simp; omega
 have hvfr : ∀ j,w.frozen? ⟨vb,j,none⟩ = false := fun j => by simp only [World.frozen?,hvw]; simp; omega
 have hcell : ∀ j (h : j < cur.size),w.cell? ⟨b,j,none⟩ = some cur[j] := fun j h => by simp [World.cell?,hw,Array.getElem?_eq_getElem h]
 have hvcell : ∀ j (h : j < vur.size),w.cell? ⟨vb,j,none⟩ = some vur[j] := fun j h => by simp [World.cell?,hvw,Array.getElem?_eq_getElem h]
 have hsome : ∀ j,j < cur.size → (w.cell? ⟨b,j,none⟩).isSome = true := fun j h => by rw [hcell j h]; rfl
 obtain ⟨cs,hcs⟩ : ∃ cs,cs = cur.toList.take (n * s) := ⟨_,rfl⟩
 obtain ⟨vs,hvs'⟩ : ∃ vs,vs = vur.toList.take s := ⟨_,rfl⟩
 have hcl : cs.length = n * s := by rw [hcs,List.length_take,Array.length_toList]; omega
 have hvl : vs.length = s := by rw [hvs',List.length_take,Array.length_toList]; omega
 have hcg : ∀ j,j < n * s → cs[j]? = cur[j]? := fun j hj => by rw [hcs,List.getElem?_take,if_pos hj,Array.getElem?_toList]
 have hvg : ∀ j,j < s → vs[j]? = vur[j]? := fun j hj => by rw [hvs',List.getElem?_take,if_pos hj,Array.getElem?_toList]
 have hcc : ∀ j v,cs[j]? = some v → w.cell? ⟨b,j,none⟩ = some v := fun j v hj => by
   have hlt : j < n * s := by rw [← hcl]; exact (List.getElem?_eq_some_iff.1 hj).1
   rw [hcell j (by omega),← hj,hcg j hlt,Array.getElem?_eq_getElem (by omega)]
 have hvc : ∀ j v,vs[j]? = some v → w.cell? ⟨vb,j,none⟩ = some v := fun j v hj => by
   have hlt : j < s := by rw [← hvl]; exact (List.getElem?_eq_some_iff.1 hj).1
   rw [hvcell j (by omega),← hj,hvg j hlt,Array.getElem?_eq_getElem (by omega)]
 have hc1 : ∀ v ∈ cs,one v = true := fun v hv => by
   rw [hcs] at hv
   obtain ⟨j,hj,rfl⟩ := List.getElem_of_mem (List.mem_of_mem_take hv)
   exact h1 j (by simpa using hj)
 have hv1 : ∀ v ∈ vs,one v = true := fun v hv => by
   rw [hvs'] at hv
   obtain ⟨j,hj,rfl⟩ := List.getElem_of_mem (List.mem_of_mem_take hv)
   exact h1v j (by simpa using hj)
 have hd1 : ∀ v ∈ cs.drop (i * s),one v = true := fun v hv => hc1 v (List.mem_of_mem_drop hv)
 have hdl : (cs.drop (i * s)).length = n * s - i * s := by rw [List.length_drop,hcl]
 have hbw := heap_lt hw
 have hbig : (n + 1) * by' ≤ 140737488355328 := Nat.le_trans (Nat.mul_le_mul (show n + 1 ≤ 1000001 by omega) hby) (by decide)
 have htop' : c ≤ 9223372036854775807 := by unfold maxLen at htop; omega
 have hzc : ∀ d,∀ v ∈ (Builtin.zeroCells (Value.agg z.toArray).cells d).toList,one v = true := fun d v hv => hz1 v (mem_zeroCells z hz0 hz1 hv)
 have hzs : ∀ d,(Builtin.zeroCells (Value.agg z.toArray).cells d).size = d * s := fun d => by
   rw [size_zeroCells]
   have : (Value.agg z.toArray).cells.size = z.length := by simp [Value.cells]
   rw [this,hz]
 by_cases hroom : n + 1 ≤ c
 · obtain rfl := ho (by omega)
   have h2 : (n + 1) * s ≤ c * s := Nat.mul_le_mul_right _ hroom
   rw [hm1] at h2
   by_cases hie : i = n
   · subst hie
     refine (hW.endroom b i c vb vc vs w hroom htop' hvl (fun j hj => hsome j (by rw [hm1] at hj; omega)) hfr hvc hv1).mono ?_
     rintro r w' ⟨rfl,rfl⟩
     obtain ⟨cu,q1,q2,q3,q4,q5,q6,q7,q8⟩ := setC P (i * s) vs hw hf (by omega) hv1
     refine ⟨b,c,rfl,⟨cu,e,fz,q1,hf,by omega,one_set q2 q3 hv1 h1,fun j hj => ?_⟩,⟨.inl rfl,by omega⟩,hroom,htop,q6,q7,q8,by omega,fun k _ hk => q4 k hk,fun c' e' f' h => ?_⟩
     · rw [hm1] at hj
       rw [q3 j (by omega),hvl,hm1]
       by_cases h3 : j < i * s
       · rw [if_neg (by omega),if_pos h3]
       · rw [if_pos (by omega),if_neg h3,if_pos hj,hvg _ (by omega)]
     · rw [hw] at h; injection h with h; injection h with g1 g2 g3; subst g1 g2 g3
       exact ⟨cu,fz,q1,q2⟩
   · have hlt : i < n := by omega
     have h3 : (i + 1) * s ≤ n * s := Nat.mul_le_mul_right _ hlt
     rw [hm1] at h3
     have hsh : ∀ {x : Nat} {c e f},w.heap[x]? = some (.cells c e f) → w.shape? x = some (e,c.size) := fun h => by simp [World.shape?,h]
     refine (hW.shift b n c i vb vc cs vs w hlt hroom htop' hvb hcl hvl hcc (fun j hj => hsome j (by rw [hm1] at hj; omega)) hfr hvc hc1 hv1 _ _ _ _ (hsh hvw) (hsh hw) (by omega) (hvfr _) (hvfr _)).mono ?_
     rintro r w' ⟨rfl,rfl⟩
     obtain ⟨cu,q1,q2,q3,q4,q5,q6,q7,q8⟩ := setC P (w := w.drew) ((i + 1) * s) (cs.drop (i * s)) hw hf (by rw [hm1,hdl]; omega) hd1
     obtain ⟨cv,p1,p2,p3,p4,p5,p6,p7,p8⟩ := setC P (i * s) vs q1 hf (by omega) hv1
     refine ⟨b,c,rfl,⟨cv,e,fz,p1,hf,by omega,one_set p2 p3 hv1 (one_set q2 q3 hd1 h1),fun j hj => ?_⟩,⟨.inl rfl,by rw [p5,q5]; exact hbw⟩,hroom,htop,p6.trans q6,p7.trans q7,p8.trans q8,by rw [p5,q5]; exact Nat.le_refl _,fun k _ hk => (p4 k hk).trans (q4 k hk),fun c' e' f' h => ?_⟩
     · rw [hm1] at hj
       rw [p3 j (by omega),hvl,hm1]
       by_cases h3 : j < i * s
       · rw [if_neg (by omega),if_pos h3,q3 j (by omega),hm1,if_neg (by omega)]
       · by_cases h4 : j < i * s + s
         · rw [if_pos (by omega),if_neg h3,if_pos h4,hvg _ (by omega)]
         · rw [if_neg (by omega),if_neg h3,if_neg h4,q3 j (by omega),hm1,hdl,if_pos (by omega),List.getElem?_drop,hcg _ (by omega)]
           congr 1
           omega
     · rw [hw] at h; injection h with h; injection h with g1 g2 g3; subst g1 g2 g3
       exact ⟨cv,fz,p1,by omega⟩
 · have hcn : c = n := by omega
   have hge := grownCap_ge w (n + 1) c E
   have htp := grownCap_le_maxLen w (n + 1) c E (by unfold maxLen; omega)
   generalize hG : grownCap w (n + 1) c E = G at hge htp
   have h2 : (n + 1) * s ≤ G * s := Nat.mul_le_mul_right _ hge
   rw [hm1] at h2
   have hGs : (G - (n + 1)) * s = G * s - (n * s + s) := by rw [Nat.sub_mul,hm1]
   by_cases hie : i = n
   · subst hie
     refine (hW.endgrow b o i c vb vc cs vs w hnc (by omega) hbig hcl hvl (fun j v hj => ?_) hvc hv1).mono ?_
     · have hlt : j < i * s := by rw [← hcl]; exact (List.getElem?_eq_some_iff.1 hj).1
       have : 0 < i := by
         rcases Nat.eq_zero_or_pos i with h | h
         · subst h; simp at hlt
         · exact h
       obtain rfl := ho (by omega)
       rw [Nat.zero_add]; exact hcc j v hj
     rintro r w' ⟨rfl,rfl⟩
     rw [hG]
     refine ⟨w.heap.size,G,rfl,⟨_,E,(0,0),heap_alloc_new w.drew _,rfl,?_,fun j hj => ?_,fun j hj => ?_⟩,⟨.inr (Nat.le_refl _),?_⟩,hge,htp,rfl,rfl,rfl,?_,fun k hk _ => heap_alloc_old w.drew _ hk,fun c' e' f' h => ⟨c',f',(heap_alloc_old w.drew _ hbw).trans h,rfl⟩⟩
     · rw [Array.size_append,hzs,List.size_toArray,List.length_append,hcl,hvl,hGs]; omega
     · have : ∀ v ∈ (cs ++ vs).toArray ++ Builtin.zeroCells (Value.agg z.toArray).cells (G - (i + 1)),one v = true := fun v hv => by
         rcases Array.mem_append.1 hv with h | h
         · rcases List.mem_append.1 (List.mem_toArray.1 h) with h | h
           · exact hc1 v h
           · exact hv1 v h
         · exact hzc _ v (Array.mem_toList_iff.2 h)
       exact this _ (Array.getElem_mem hj)
     · rw [hm1] at hj
       rw [Array.getElem?_append_left (by rw [List.size_toArray,List.length_append,hcl,hvl]; exact hj),List.getElem?_toArray,hm1]
       by_cases h3 : j < i * s
       · rw [if_pos h3,List.getElem?_append_left (by omega),hcg j h3]
       · rw [if_neg h3,if_pos hj,List.getElem?_append_right (by omega),hcl,hvg _ (by omega)]
     · show w.heap.size < (w.heap.push _).size
       simp
     · show w.heap.size ≤ (w.heap.push _).size
       simp
   · have hlt : i < n := by omega
     have h3 : (i + 1) * s ≤ n * s := Nat.mul_le_mul_right _ hlt
     rw [hm1] at h3
     obtain rfl := ho (by omega)
     refine (hW.grow b n c i vb vc cs vs w hlt hnc (by omega) hbig hcl hvl hcc hvc hc1 hv1).mono ?_
     rintro r w' ⟨rfl,rfl⟩
     rw [hG]
     have hni : (n + 1 - i) * s = n * s + s - i * s := by rw [Nat.sub_mul,hm1]
     generalize hrow : (cs.take (i * s)).toArray ++ Builtin.zeroCells (Value.agg z.toArray).cells (n + 1 - i) ++ Builtin.zeroCells (Value.agg z.toArray).cells (G - (n + 1)) = row
     have hrs : row.size = G * s := by
       rw [← hrow,Array.size_append,Array.size_append,hzs,hzs,List.size_toArray,List.length_take,hcl,hGs,hni]
       omega
     have hr1 : ∀ (j : Nat) (h : j < row.size),one row[j] = true := fun j hj => by
       have : ∀ v ∈ row,one v = true := fun v hv => by
         rw [← hrow] at hv
         rcases Array.mem_append.1 hv with h | h
         · rcases Array.mem_append.1 h with h | h
           · exact hc1 v (List.mem_of_mem_take (List.mem_toArray.1 h))
           · exact hzc _ v (Array.mem_toList_iff.2 h)
         · exact hzc _ v (Array.mem_toList_iff.2 h)
       exact this _ (Array.getElem_mem hj)
     have hrl : ∀ j,j < i * s → row[j]? = cur[j]? := fun j hj => by
       rw [← hrow,Array.getElem?_append_left (by rw [Array.size_append,List.size_toArray,List.length_take,hcl]; omega),Array.getElem?_append_left (by rw [List.size_toArray,List.length_take,hcl]; omega),List.getElem?_toArray,List.getElem?_take,if_pos hj,hcg j (by omega)]
     have hA := heap_alloc_new w (.cells row E)
     obtain ⟨cu,q1,q2,q3,q4,q5,q6,q7,q8⟩ := setC P (w := (w.alloc (.cells row E)).drew) (b := w.heap.size) (i * s) vs hA rfl (by omega) hv1
     obtain ⟨cv,p1,p2,p3,p4,p5,p6,p7,p8⟩ := setC P (w := (((w.alloc (.cells row E)).drew).setCells w.heap.size (i * s) vs).drew) (b := w.heap.size) ((i + 1) * s) (cs.drop (i * s)) q1 rfl (by rw [hdl,hm1]; omega) hd1
     have hsz : ((w.alloc (.cells row E)).drew).heap.size = w.heap.size + 1 := by
       show (w.heap.push _).size = _
       simp
     have hp5 : ((((w.alloc (.cells row E)).drew.setCells w.heap.size (i * s) vs).drew).setCells w.heap.size ((i + 1) * s) (cs.drop (i * s))).heap.size = w.heap.size + 1 := p5.trans (q5.trans hsz)
     have hold : ∀ k,k < w.heap.size → ((((w.alloc (.cells row E)).drew.setCells w.heap.size (i * s) vs).drew).setCells w.heap.size ((i + 1) * s) (cs.drop (i * s))).heap[k]? = w.heap[k]? := fun k hk => by
       rw [p4 k (by omega)]
       refine (q4 k (by omega)).trans ?_
       exact heap_alloc_old w _ hk
     refine ⟨w.heap.size,G,rfl,⟨cv,E,(0,0),p1,rfl,by omega,one_set p2 p3 hd1 (one_set q2 q3 hv1 hr1),fun j hj => ?_⟩,⟨.inr (Nat.le_refl _),by rw [hp5]; omega⟩,hge,htp,p6.trans q6,p7.trans q7,p8.trans q8,by rw [hp5]; omega,fun k hk _ => hold k hk,fun c' e' f' h => ⟨c',f',(hold b hbw).trans h,rfl⟩⟩
     rw [hm1] at hj
     rw [p3 j (by omega),hdl,hm1]
     by_cases h4 : j < i * s
     · rw [if_neg (by omega),if_pos h4,q3 j (by omega),if_neg (by omega),hrl j h4]
     · by_cases h5 : j < i * s + s
       · rw [if_neg (by omega),if_neg h4,if_pos h5,q3 j (by omega),if_pos (by omega),hvg _ (by omega)]
       · rw [if_pos (by omega),if_neg h4,if_neg h5,List.getElem?_drop,hcg _ (by omega)]
         congr 1
         omega
end Ax
end Go.Proofs.Ytlpjdgkpapjldaa
namespace Go.Proofs.Ytlpjdgkpapjldaa
namespace Ax
open Go.RowKit
def insL (xs : List AV) (n i : Nat) (x : AV) : List AV := xs.take i ++ x :: (xs.take n).drop i
def insS (s : Nat) : zay
 | [.ms 0 a 0 n,.w (.int .i64 i),.ms 1 b 0 1],[.g c xs,.g d [x]] => ⟨(a = s ∧ b = s ∧ c = s ∧ d = s) ∧ n ≤ xs.length ∧ n ≤ 1000000 ∧ 0 ≤ i ∧ i ≤ n,.ms 2 s 0 (n + 1),[gone,gone,.g s (insL xs n i.toNat x)]⟩
 | _,_ => zdj
theorem fl_len {s : Nat} {xs : List AV} (h : ∀ x ∈ xs,x.leaves.length = s) : (xs.flatMap AV.leaves).length = xs.length * s := by
 induction xs with
 | nil => simp
 | cons x r ih => rw [List.flatMap_cons,List.length_append,h x (by simp),ih (fun y hy => h y (by simp [hy])),List.length_cons,Nat.succ_mul]; omega
theorem fl_ins {s : Nat} {xs : List AV} {x : AV} (h : ∀ x ∈ xs,x.leaves.length = s) (hx : x.leaves.length = s) {n i : Nat} (hn : n ≤ xs.length) (hi : i ≤ n) (j : Nat) (hj : j < (n + 1) * s) :
   ((insL xs n i x).flatMap AV.leaves)[j]? = if j < i * s then (xs.flatMap AV.leaves)[j]? else if j < (i + 1) * s then x.leaves[j - i * s]? else (xs.flatMap AV.leaves)[j - s]? := by
 have h1 := fl_len h
 have h2 : i * s ≤ n * s := Nat.mul_le_mul_right _ hi
 have h3 : n * s ≤ xs.length * s := Nat.mul_le_mul_right _ hn
 rw [Nat.succ_mul] at hj ⊢
 unfold insL
 rw [List.flatMap_append,List.flatMap_cons,zba xs i h,zbn (xs.take n) i (fun y hy => h y (List.mem_of_mem_take hy)),zba xs n h]
 have h4 : ((xs.flatMap AV.leaves).take (i * s)).length = i * s := by rw [List.length_take,h1]; omega
 by_cases h5 : j < i * s
 · rw [if_pos h5,List.getElem?_append_left (by omega),List.getElem?_take,if_pos h5]
 · rw [if_neg h5,List.getElem?_append_right (by omega),h4]
   by_cases h6 : j < i * s + s
   · rw [if_pos h6,List.getElem?_append_left (by omega)]
   · rw [if_neg h6,List.getElem?_append_right (by omega),hx,List.getElem?_drop,List.getElem?_take,if_pos (by omega)]
     congr 1
     omega
theorem insL_len {xs : List AV} {n i : Nat} {x : AV} (hn : n ≤ xs.length) (hi : i ≤ n) : (insL xs n i x).length = n + 1 := by
 unfold insL
 simp only [List.length_append,List.length_take,List.length_cons,List.length_drop]
 omega
theorem mem_insL {xs : List AV} {n i : Nat} {x y : AV} (h : y ∈ insL xs n i x) : y ∈ xs ∨ y = x := by
 unfold insL at h
 rcases List.mem_append.1 h with h | h
 · exact .inl (List.mem_of_mem_take h)
 · rcases List.mem_cons.1 h with h | h
   · exact .inr h
   · exact .inl (List.mem_of_mem_take (List.mem_of_mem_drop h))
def Side (w : World) (loc : Loc) (fx : List AV) (cur : Array Value) : Prop := ∀ (j : Nat) (a : AV) (c : Value),fx[j]? = some a → cur[j]? = some c → a.leaf = true ∧ R w loc a c
theorem side_of {w : World} {loc : Loc} {fx : List AV} {cur : Array Value} (h : ∀ (j : Nat) (h : j < fx.length) (h' : j < cur.size),fx[j].leaf = true ∧ R w loc fx[j] cur[j]) : Side w loc fx cur := by
 intro j a c ha hc
 obtain ⟨h1,rfl⟩ := List.getElem?_eq_some_iff.1 ha
 obtain ⟨h2,rfl⟩ := Array.getElem?_eq_some_iff.1 hc
 exact h j h1 h2
theorem ins_sound {P : Program} {f : FuncId} {s : Nat} (hI : InsLaw P f s) (hs : 1 < s) : SoundO P f (insS s) := by
 intro xs pins hp w bad pb vs hpb hnd hbad hpins hlen hxs
 unfold insS at hp ⊢
 split at hp
 · rename_i a n i b1 c ys s9 x
   obtain ⟨⟨rfl,rfl,rfl,rfl⟩,hn,hn6,hi0,hin⟩ := hp
   obtain ⟨i,rfl⟩ : ∃ k : Nat,i = k := ⟨i.toNat,by omega⟩
   obtain ⟨b,vb,rfl⟩ : ∃ b vb,pb = [b,vb] := by
     match pb,hpb with
     | [b,vb],_ => exact ⟨b,vb,rfl⟩
   obtain ⟨v,v1,v2,rfl⟩ : ∃ v v1 v2,vs = [v,v1,v2] := by
     match vs,hlen with
     | [v,v1,v2],_ => exact ⟨v,v1,v2,rfl⟩
   have hv : R w (zat [b,vb] bad) (.ms 0 s9 0 n) v := hxs 0 (by simp) (by simp)
   have hv1 : R w (zat [b,vb] bad) (.w (.int .i64 i)) v1 := hxs 1 (by simp) (by simp)
   have hv2 : R w (zat [b,vb] bad) (.ms 1 s9 0 1) v2 := hxs 2 (by simp) (by simp)
   obtain rfl := hv1.wv
   have hm0 : (zat [b,vb] bad).m 0 = .here b := rfl
   have hm1 : (zat [b,vb] bad).m 1 = .here vb := rfl
   have hbv : vb ≠ b := by
     intro h; subst h
     simp at hnd
   cases hv with
   | ms _ _ _ _ _ h =>
   cases hv2 with
   | ms _ _ _ _ _ h' =>
     unfold Owns at h h'
     rw [hm0] at h
     rw [hm1] at h'
     simp only at h h'
     obtain ⟨o,cap,cur,e,fz,rfl,ho,hcur,hsz,hle,hcap⟩ := h
     obtain ⟨o',cap',vur,e',fz',rfl,ho',hvur,hsz',hle',hcap'⟩ := h'
     have ho : 0 < cap → o = 0 := fun h => by have := ho h; omega
     obtain rfl : o' = 0 := by have := ho' (by omega); omega
     obtain ⟨hok,hL⟩ := hpins 0 (by simp) (by simp)
     obtain ⟨hok',hL'⟩ := hpins 1 (by simp) (by simp)
     have hL : Lies w (zat [b,vb] bad) (.g s9 ys) b := hL
     have hL' : Lies w (zat [b,vb] bad) (.g s9 [x]) vb := hL'
     obtain ⟨c1,e1,f1,g1,hfz,hone,hfl,hcells⟩ := hL.lies rfl
     rw [hcur] at g1; injection g1 with g1; injection g1 with q1 q2 q3; subst q1 q2 q3
     obtain ⟨c2,e2,f2,g2,hfz',hone',hfl',hcells'⟩ := hL'.lies rfl
     rw [hvur] at g2; injection g2 with g2; injection g2 with q1 q2 q3; subst q1 q2 q3
     have hfz : fz.1 = fz.2 := hfz.elim id (fun h => absurd h.2 (by show ¬ s9 = 1; omega))
     have hfz' : fz'.1 = fz'.2 := hfz'.elim id (fun h => absurd h.2 (by show ¬ s9 = 1; omega))
     have hys : ∀ y ∈ ys,y.leaves.length = s9 := hok.2
     have hx : x.leaves.length = s9 := hok'.2 x (by simp)
     rw [Nat.zero_add] at hsz hsz'
     have hcap1 : 1 * s9 ≤ cap' * s9 := Nat.mul_le_mul_right _ hle'
     have hcall := hI w b o n cap i vb cap' cur vur e e' fz fz' hcur hfz hvur hfz' hbv hone hone' ho hsz (by omega) hle (by omega) hn6 hcap
     refine hcall.mono ?_
     rintro r w' ⟨b2,c2,rfl,hO⟩
     obtain ⟨cu,e2,fz2,r1,r2,r3,r4,r5⟩ := hO.cells
     obtain ⟨hat,hlt⟩ := hO.at_
     have hbs := heap_lt hcur
     have hvs := heap_lt hvur
     let loc' : Loc := { m := fun id => match id with | 0 => .dead | 1 => .dead | 2 => .here b2 | _ => .free,bad }
     have hmut : ∀ k,k < w.heap.size → ¬ Mut (zat [b,vb] bad) k → k ≠ b ∧ k ≠ vb ∧ ¬ Mut loc' k := by
       intro k hk hm
       have h1 : k ≠ b := by rintro rfl; exact hm (.inr ⟨0,rfl⟩)
       have h2 : k ≠ vb := by rintro rfl; exact hm (.inr ⟨1,rfl⟩)
       refine ⟨h1,h2,?_⟩
       rintro (h | ⟨id,h⟩)
       · exact hm (.inl h)
       · match id,h with
         | 2,h =>
           have h : L.here b2 = .here k := h
           injection h with h; subst h
           rcases hat with h | h
           · exact h1 h
           · omega
     have hext : Ext (fun _ => True) w (zat [b,vb] bad) w' loc' := by
       refine ⟨hO.size,fun id _ h => (h trivial).elim,fun id hid _ => ?_,fun k hk hm => ?_,fun id k _ h => (h trivial).elim,fun k c e f hc => ?_⟩
       · match id,hid with
         | 0,_ => exact .inr rfl
         | 1,_ => exact .inr rfl
         | k + 2,h => exact (h rfl).elim
       · obtain ⟨h1,h2,h3⟩ := hmut k hk hm
         exact ⟨hO.same k hk h1,h3⟩
       · by_cases hk : k = b
         · subst hk; exact hO.shape c e f hc
         · exact ⟨c,f,(hO.same k (heap_lt hc) hk).trans hc,rfl⟩
     have hS := side_of hcells
     have hS' := side_of hcells'
     have hfx : (Blk.g s9 [x]).flat = x.leaves := by simp [Blk.flat]
     rw [hfx] at hS'
     have hfn : (Blk.g s9 (insL ys n i x)).flat.length = (n + 1) * s9 := by
       show ((insL ys n i x).flatMap AV.leaves).length = _
       rw [fl_len (s := s9),insL_len hn (by omega)]
       intro y hy
       rcases mem_insL hy with h | rfl
       · exact hys y h
       · exact hx
     have hle2 : (n + 1) * s9 ≤ c2 * s9 := Nat.mul_le_mul_right _ hO.le
     refine ⟨_,loc',rfl,?_⟩
     refine ⟨?_,rfl,?_,?_,?_,?_,?_,?_⟩
     · refine .ms _ _ _ _ _ ?_
       unfold Owns
       show ∃ o cap cur e fz,_
       exact ⟨0,c2,cu,e2,fz2,rfl,fun _ => by omega,r1,by rw [Nat.zero_add]; exact r3,hO.le,hO.top⟩
     · intro k hk
       match k,hk with
       | 0,_ => exact .inl ⟨rfl,rfl⟩
       | 1,_ => exact .inl ⟨rfl,rfl⟩
       | 2,_ =>
         refine .inr ⟨?_,by show L.here b2 ≠ _; simp,by show L.here b2 ≠ _; simp⟩
         show BlkR w' loc' 2 (.g s9 (insL ys n i x))
         unfold BlkR
         show _ ∧ _
         refine ⟨⟨by omega,fun y hy => ?_⟩,Lies.mkC ⟨cu,e2,fz2,r1,.inl r2,r4,by rw [hfn]; omega,fun j hj hj' => ?_⟩⟩
         · rcases mem_insL hy with h | rfl
           · exact hys y h
           · exact hx
         · rw [hfn] at hj
           have h1 := fl_ins hys hx hn (show i ≤ n by omega) j hj
           have h2 := r5 j hj
           have h3 : ((insL ys n i x).flatMap AV.leaves)[j]? = some ((Blk.g s9 (insL ys n i x)).flat[j]'(by rw [hfn]; exact hj)) := List.getElem?_eq_getElem _
           have h4 : cu[j]? = some cu[j] := Array.getElem?_eq_getElem hj'
           rw [h3] at h1
           rw [h4] at h2
           have : ∀ A C,some A = (if j < i * s9 then (ys.flatMap AV.leaves)[j]? else if j < (i + 1) * s9 then x.leaves[j - i * s9]? else (ys.flatMap AV.leaves)[j - s9]?) →
               some C = (if j < i * s9 then cur[j]? else if j < (i + 1) * s9 then vur[j - i * s9]? else cur[j - s9]?) → A.leaf = true ∧ R w (zat [b,vb] bad) A C := by
             intro A C hA hC
             split at hA
             · rename_i h; rw [if_pos h] at hC; exact hS j A C hA.symm hC.symm
             · rename_i h; rw [if_neg h] at hC
               split at hA
               · rename_i h; rw [if_pos h] at hC; exact hS' _ A C hA.symm hC.symm
               · rename_i h; rw [if_neg h] at hC; exact hS _ A C hA.symm hC.symm
           obtain ⟨g1,g2⟩ := this _ _ h1 h2
           exact ⟨g1,g2.ext hext⟩
     · intro k hk
       match k,hk with
       | 0,_ => exact .inr rfl
       | 1,_ => exact .inr rfl
     · intro k b' hk h
       match k,hk,h with
       | 2,_,h =>
         have h : L.here b2 = .here b' := h
         injection h with h; subst h
         refine ⟨?_,hlt⟩
         rcases hat with h | h
         · exact .inr (by simp [h])
         · exact .inl h
       | k + 3,_,h => cases h
     · intro k hk
       match k,hk with
       | k + 3,_ => rfl
     · intro i' j' b' h1 h2
       have h3 : ∀ t,loc'.m t = .here b' → t = 2 := by
         intro t ht
         match t,ht with
         | 2,_ => rfl
       rw [h3 _ h1,h3 _ h2]
     · refine ⟨hO.os,hO.tape,hO.output,hO.size,fun k hk hne => ?_,fun k c' e' f' hE hc' => ?_⟩
       · exact hO.same k hk (fun h => hne (by simp [h]))
       · by_cases hk : k = b
         · subst hk; exact hO.shape c' e' f' hc'
         · exact ⟨c',f',(hO.same k (heap_lt hc') hk).trans hc',rfl⟩
 · exact hp.elim
end Ax
end Go.Proofs.Ytlpjdgkpapjldaa
namespace Go.Proofs.Ytlpjdgkpapjldaa
open Ax Go.RowKit
theorem inswIW : InsWalks Try.prog 51 6 55 zIW 56 :=
 ⟨fun b n c i vb vc cs vs w h1 h2 h3 h4 h5 h6 h7 h8 h9 h10 h11 h12 tA tB kA kB h13 h14 h15 h16 h17 => ins_shiftIW b n c i vb 1 vc cs vs w h1 Nat.one_pos h2 h3 h4 h5 (by omega) h7 h8 h9 h10 h11 h12 tA tB kA kB h13 h14 h15 h16 h17,
  fun b n c vb vc vs w h1 h2 h3 h4 h5 h6 h7 => ins_endroomIW b n c vb 1 vc vs w Nat.one_pos h1 h2 (by omega) h4 h5 h6 h7,
  fun b o n c vb vc cs vs w h1 h2 h3 h4 h5 h6 h7 h8 => ins_endgrowIW b o n c vb 1 vc cs vs w Nat.one_pos h1 h2 h3 h4 (by omega) h6 h7 h8,
  fun b n c i vb vc cs vs w h1 h2 h3 h4 h5 h6 h7 h8 h9 h10 => ins_growIW b n c i vb 1 vc cs vs w h1 Nat.one_pos h2 h3 h4 h5 (by omega) h7 h8 h9 h10⟩
theorem insGIW_sound : SoundO Try.prog 51 (insS 6) := ins_sound (ins_law inswIW (by decide) rfl one_zIW (by decide)) (by decide)
end Go.Proofs.Ytlpjdgkpapjldaa
namespace Go.Proofs.Ytlpjdgkpapjldaa
open Ax
def fnW (s : Int) (k : List UInt8) : List WS → Int → Int
 | [],_ => -1
 | r :: rs,i => if naW s k r = true then i else fnW s k rs (i + 1)
theorem fnW_idx (s : Int) (k : List UInt8) : ∀ (l : List WS) (i : Int),fnW s k l i = if plW s k l < l.length then i + (plW s k l : Nat) else -1
 | [],i => rfl
 | r :: l,i => by
   unfold plW
   simp only [fnW]
   rw [List.findIdx_cons]
   cases h : naW s k r with
   | true => rw [if_pos rfl,if_pos (by simp)]; simp
   | false =>
     rw [if_neg (by simp),fnW_idx s k l (i + 1)]
     unfold plW
     simp only [cond_false,List.length_cons]
     by_cases h2 : l.findIdx (naW s k) < l.length
     · rw [if_pos h2,if_pos (by omega)]; omega
     · rw [if_neg h2,if_neg (by omega)]
def cloWS : zay
 | [.agg [.w (.int .i64 Z),.w (.int .i64 L),.w (.int .i64 M),.w (.int .i64 D),.sg 6 xs f]],[] => ⟨xs.length ≤ 1000000 ∧ ∃ l : List WS,xs = l.map wsA,.agg [.w (.int .i64 Z),.w (.int .i64 L),.w (.int .i64 M),.w (.int .i64 D),bif empW xs then .sg 6 [] true else .ms 0 6 0 xs.length],bif empW xs then [] else [.g 6 xs]⟩
 | _,_ => zdj
def pl1S35 : zay
 | [.agg [.w (.int .i64 s),.str k,.w (.int .i64 c),.w (.int .i64 t),.w (.int .i64 a),.w (.int .i64 b)],.rf 0 2 0 0],[.g 2 [.agg [.w (.int .i64 s2),.str k2]]] => ⟨True,.w (.bool (!(ahB s k s2 k2))),[.g 2 [.agg [.w (.int .i64 s2),.str k2]]]⟩
 | _,_ => zdj
def idxPS : zay
 | [.sg 6 ys g,.fn id [.rf 0 2 0 0]],[.g 2 [.agg [.w (.int .i64 s),.str k]]] => ⟨id = 59 ∧ ys.length ≤ 9223372036854775807 ∧ ∃ l : List WS,ys = l.map wsA,.w (.int .i64 (fnW s k (ys.map uws) 0)),[.g 2 [.agg [.w (.int .i64 s),.str k]]]⟩
 | _,_ => zdj
def zft : zay
 | [.agg [.w (.int .i64 Z),.w (.int .i64 L),.w (.int .i64 M),.w (.int .i64 D),.sg 6 xs f],.agg [.w (.int .i64 s),.str k]],[] => ⟨xs.length ≤ 1000000 ∧ ∃ l : List WS,xs = l.map wsA ∧ risW l = true,.tup [.w (.int .i64 (plW s k (xs.map uws))),.w (.bool (thW s k (xs.map uws)))],[]⟩
 | _,_ => zdj
def SclW (f : FuncId) : Option zay :=
 match f with
 | 49 => some cloneGWS
 | 37 => some aheadS
 | 38 => some spotS
 | _ => none
theorem SclW_ok : Fns Try.prog SclW := by
 intro f s h
 unfold SclW at h
 split at h
 · injection h with h; subst h; exact ⟨⟨_,Try.func49,by kernel_rfl,by kernel_rfl⟩,cloneGW_sound⟩
 · injection h with h; subst h; exact ⟨⟨_,Try.func37,by kernel_rfl,by kernel_rfl⟩,ahead_sound⟩
 · injection h with h; subst h; exact ⟨⟨_,Try.func38,by kernel_rfl,by kernel_rfl⟩,spot_sound⟩
 · cases h
section
set_option maxRecDepth 100000
set_option maxHeartbeats 8000000
theorem cloW_sound : zbz Try.prog 26 cloWS := by
 refine zdq (S := SclW) (SO := noO) (T := ty) zdc ty_ok SclW_ok noO_ok Try.func26 (c := Try.f26.body.getD .skip) (by kernel_rfl) (fun xs pins hp _ => ?_)
 unfold cloWS at hp ⊢
 split at hp
 · rename_i Z L M D xs f _
   obtain ⟨hL,l,rfl⟩ := hp
   rw [List.length_map] at hL
   have hle : (l.map wsA).length = l.length := by simp
   have hcl := zal l
   have hex : ∃ p : List WS,l.map wsA = p.map wsA := ⟨l,rfl⟩
   have hc : ∀ f,coe ty 29 (.sg 6 (l.map wsA) f) = .sg 6 (l.map wsA) f := fun f => by cases l <;> rfl
   refine ⟨by simp,zec,by kernel_rfl,?_⟩
   unfold Try.f26
   cases hz : empW (l.map wsA) with
   | true =>
     simp only [go_sem,zaa,Nat.reduceAdd,Nat.reduceSub,Nat.reduceMul,Int.reduceToNat,reduceCtorEq,↓reduceIte,Int.reducePow,Nat.reducePow,Int.reduceMod,Nat.reduceLeDiff,Int.reduceLE,Int.reduceNe,Int.reduceEq,Nat.reduceEqDiff,Nat.reduceLT,Nat.reduceBEq,List.map_cons,List.map_nil,List.toList_toArray,Array.toList_append,Option.toArray_some,Option.toArray_none,Bool.and_self,ty,SclW,zec,cloneGWS,hle,hL,hex,hc,hz,cond_true]
     try (refine ⟨_,Weak.refl _,?_⟩)
     try simp only [go_sem,zaa,Nat.reduceAdd,Nat.reduceSub,Nat.reduceMul,Int.reduceToNat,reduceCtorEq,↓reduceIte,Int.reducePow,Nat.reducePow,Int.reduceMod,Nat.reduceLeDiff,Int.reduceLE,Int.reduceNe,Int.reduceEq,Nat.reduceEqDiff,Nat.reduceLT,Nat.reduceBEq,List.map_cons,List.map_nil,List.toList_toArray,Array.toList_append,Option.toArray_some,Option.toArray_none,Bool.and_self,ty,SclW]
   | false =>
     simp only [go_sem,zaa,Nat.reduceAdd,Nat.reduceSub,Nat.reduceMul,Int.reduceToNat,reduceCtorEq,↓reduceIte,Int.reducePow,Nat.reducePow,Int.reduceMod,Nat.reduceLeDiff,Int.reduceLE,Int.reduceNe,Int.reduceEq,Nat.reduceEqDiff,Nat.reduceLT,Nat.reduceBEq,List.map_cons,List.map_nil,List.toList_toArray,Array.toList_append,Option.toArray_some,Option.toArray_none,Bool.and_self,ty,SclW,zec,cloneGWS,hle,hL,hex,hc,hz,hcl,zaz,cond_false]
     try (refine ⟨_,Weak.refl _,?_⟩)
     try simp only [go_sem,zaa,Nat.reduceAdd,Nat.reduceSub,Nat.reduceMul,Int.reduceToNat,reduceCtorEq,↓reduceIte,Int.reducePow,Nat.reducePow,Int.reduceMod,Nat.reduceLeDiff,Int.reduceLE,Int.reduceNe,Int.reduceEq,Nat.reduceEqDiff,Nat.reduceLT,Nat.reduceBEq,List.map_cons,List.map_nil,List.toList_toArray,Array.toList_append,Option.toArray_some,Option.toArray_none,Bool.and_self,ty,SclW,hcl,zaz,cond_false,cond_true]
 · exact hp.elim
theorem pl1_sound35 : SoundO Try.prog 59 pl1S35 := by
 refine fn_soundO (S := SclW) (SO := noO) (T := ty) zdc ty_ok SclW_ok noO_ok Try.func59 (c := Try.f59.body.getD .skip) (by kernel_rfl) (fun xs pins hp => ?_)
 unfold pl1S35 at hp ⊢
 split at hp
 · rename_i s k c t a b s2 k2
   refine ⟨by simp,zec,by kernel_rfl,?_⟩
   obtain ⟨V,hV⟩ : ∃ V,ahB s k s2 k2 = V := ⟨_,rfl⟩
   unfold Try.f59
   simp only [go_sem,zaa,Nat.reduceAdd,Nat.reduceSub,Nat.reduceMul,Int.reduceToNat,reduceCtorEq,↓reduceIte,Int.reducePow,Nat.reducePow,Int.reduceMod,Nat.reduceLeDiff,Int.reduceLE,Int.reduceNe,Int.reduceEq,Nat.reduceEqDiff,Nat.reduceLT,Nat.reduceBEq,List.map_cons,List.map_nil,List.toList_toArray,Array.toList_append,Option.toArray_some,Option.toArray_none,Bool.and_self,ty,SclW,aheadS,zec,hV]
   try (refine ⟨_,Weak.refl _,?_⟩)
   try simp only [go_sem,zaa,Nat.reduceAdd,Nat.reduceSub,Nat.reduceMul,Int.reduceToNat,reduceCtorEq,↓reduceIte,Int.reducePow,Nat.reducePow,Int.reduceMod,Nat.reduceLeDiff,Int.reduceLE,Int.reduceNe,Int.reduceEq,Nat.reduceEqDiff,Nat.reduceLT,Nat.reduceBEq,List.map_cons,List.map_nil,List.toList_toArray,Array.toList_append,Option.toArray_some,Option.toArray_none,Bool.and_self,ty,SclW,hV]
 · exact hp.elim
def Opl35 (f : FuncId) : Option zay :=
 match f with
 | 59 => some pl1S35
 | _ => none
theorem Opl35_ok : FnsO Try.prog Opl35 := by
 intro f s h
 unfold Opl35 at h
 split at h
 · injection h with h; subst h; exact ⟨⟨_,Try.func59,by kernel_rfl,by kernel_rfl⟩,pl1_sound35⟩
 · cases h
theorem idxP_sound : SoundO Try.prog 53 idxPS := by
 refine fn_soundO (S := noS) (SO := Opl35) (T := ty) zdc ty_ok noS_ok Opl35_ok Try.func53 (c := Try.f53.body.getD .skip) (by kernel_rfl) (fun xs pins hp => ?_)
 unfold idxPS at hp ⊢
 split at hp
 · rename_i ys g id s2 k2
   obtain ⟨rfl,hL,l,rfl⟩ := hp
   rw [List.length_map] at hL
   have hle : (l.map wsA).length = l.length := by simp
   rw [zam]
   refine ⟨by simp,zby,by kernel_rfl,?_⟩
   unfold Try.f53
   simp only [go_sem,zaa,Nat.reduceAdd,Nat.reduceSub,Nat.reduceMul,Int.reduceToNat,reduceCtorEq,↓reduceIte,Int.reducePow,Nat.reducePow,Int.reduceMod,Nat.reduceLeDiff,Int.reduceLE,Int.reduceNe,Int.reduceEq,Nat.reduceEqDiff,Nat.reduceLT,Nat.reduceBEq,List.map_cons,List.map_nil,List.toList_toArray,Array.toList_append,Option.toArray_some,Option.toArray_none,Bool.and_self,ty,noS,Opl35,zby,hle]
   refine awpO_loopW ⟨fun m σ => ∃ i : Nat,m = l.length - i ∧ i ≤ l.length ∧ fnW s2 k2 l 0 = fnW s2 k2 (l.drop i) i ∧
       σ = ⟨[.sg 6 (l.map wsA) g,.fn 59 [.rf 0 2 0 0],.junk,.junk,.junk,.junk,.junk,.w (.int .i64 l.length),.w (.int .i64 i),.junk,.junk,.junk,.junk,.junk,.junk,.junk,.junk,.junk,.junk],[(0,.g 2 [.agg [.w (.int .i64 s2),.str k2]])],4⟩,?_,?_⟩
   · refine ⟨_,_,zao [0,1,2,3] rfl rfl rfl ?_ ?_,0,rfl,by omega,by rw [List.drop_zero]; rfl,rfl⟩
     · simp only [ssT,zav,zaw,setSlot,gOf,AV.ren,renL,Blk.ren,Ax.look,Ax.put,reduceCtorEq,↓reduceIte,Nat.reduceEqDiff,Nat.reduceLT,Nat.reduceAdd,List.length_append,List.length_cons,List.length_nil,Option.some.injEq]; try simp
     · simp only [ssT,zav,zaw,setSlot,gOf,AV.ren,renL,Blk.ren,Ax.look,Ax.put,reduceCtorEq,↓reduceIte,Nat.reduceEqDiff,Nat.reduceLT,Nat.reduceAdd,List.length_append,List.length_cons,List.length_nil,Option.some.injEq]; try simp
   · rintro m σ ⟨i,rfl,hi,hinv,rfl⟩
     by_cases hil : i < l.length
     · have e1 : ((i : Int) + 1 + 9223372036854775808) % 18446744073709551616 - 9223372036854775808 = ((i + 1 : Nat) : Int) := by omega
       have d1 : decide ((i : Int) < l.length) = true := decide_eq_true (by omega)
       have hs1 := zcb l i hil
       have hdr : l.drop i = l[i] :: l.drop (i + 1) := List.drop_eq_getElem_cons hil
       obtain ⟨r,hr⟩ : ∃ r,l[i] = r := ⟨_,rfl⟩
       rw [hr] at hs1 hdr
       rw [hdr] at hinv
       obtain ⟨s,k,c,t,a,b⟩ := r
       have hs1 : slot (l.map wsA) i = .agg [.w (.int .i64 s),.str k,.w (.int .i64 c),.w (.int .i64 t),.w (.int .i64 a),.w (.int .i64 b)] := hs1
       have hok : naW s2 k2 ⟨s,k,c,t,a,b⟩ = !ahB s k s2 k2 := rfl
       cases hv : ahB s k s2 k2 with
       | false =>
         have hfi : fnW s2 k2 l 0 = i := by rw [hinv]; exact if_pos (by rw [hok,hv]; rfl)
         rw [hfi]
         simp only [go_sem,zaa,Nat.reduceAdd,Nat.reduceSub,Nat.reduceMul,Int.reduceToNat,reduceCtorEq,↓reduceIte,Int.reducePow,Nat.reducePow,Int.reduceMod,Nat.reduceLeDiff,Int.reduceLE,Int.reduceNe,Int.reduceEq,Nat.reduceEqDiff,Nat.reduceLT,Nat.reduceBEq,List.map_cons,List.map_nil,List.toList_toArray,Array.toList_append,Option.toArray_some,Option.toArray_none,Bool.and_self,ty,noS,Opl35,zby,pl1S35,hle,d1,hs1,hv,Int.toNat_natCast,Bool.not_true,Bool.not_false]
         repeat (refine And.intro (by omega) ?_)
         refine ⟨_,Weak.refl _,?_⟩
         simp only [go_sem,zaa,Nat.reduceAdd,Nat.reduceSub,Nat.reduceMul,Int.reduceToNat,reduceCtorEq,↓reduceIte,Int.reducePow,Nat.reducePow,Int.reduceMod,Nat.reduceLeDiff,Int.reduceLE,Int.reduceNe,Int.reduceEq,Nat.reduceEqDiff,Nat.reduceLT,Nat.reduceBEq,List.map_cons,List.map_nil,List.toList_toArray,Array.toList_append,Option.toArray_some,Option.toArray_none,Bool.and_self,ty,noS,zby,cond_true]
         try (refine ⟨_,Weak.refl _,?_⟩)
         try simp only [go_sem,zaa,Nat.reduceAdd,Nat.reduceSub,Nat.reduceMul,Int.reduceToNat,reduceCtorEq,↓reduceIte,Int.reducePow,Nat.reducePow,Int.reduceMod,Nat.reduceLeDiff,Int.reduceLE,Int.reduceNe,Int.reduceEq,Nat.reduceEqDiff,Nat.reduceLT,Nat.reduceBEq,List.map_cons,List.map_nil,List.toList_toArray,Array.toList_append,Option.toArray_some,Option.toArray_none,Bool.and_self,ty,noS,zby,cond_true]
       | true =>
         have hfi : fnW s2 k2 l 0 = fnW s2 k2 (l.drop (i + 1)) ((i + 1 : Nat) : Int) := by
           rw [hinv]
           have e : fnW s2 k2 (⟨s,k,c,t,a,b⟩ :: l.drop (i + 1)) i = fnW s2 k2 (l.drop (i + 1)) ((i : Int) + 1) := if_neg (by rw [hok,hv]; simp)
           rw [e]; simp
         simp only [go_sem,zaa,Nat.reduceAdd,Nat.reduceSub,Nat.reduceMul,Int.reduceToNat,reduceCtorEq,↓reduceIte,Int.reducePow,Nat.reducePow,Int.reduceMod,Nat.reduceLeDiff,Int.reduceLE,Int.reduceNe,Int.reduceEq,Nat.reduceEqDiff,Nat.reduceLT,Nat.reduceBEq,List.map_cons,List.map_nil,List.toList_toArray,Array.toList_append,Option.toArray_some,Option.toArray_none,Bool.and_self,ty,noS,Opl35,zby,pl1S35,hle,d1,hs1,e1,hv,Int.toNat_natCast,Bool.not_true,Bool.not_false]
         repeat (refine And.intro (by omega) ?_)
         refine ⟨l.length - (i + 1),_,by omega,zao [0,1,2,3] rfl rfl rfl ?_ ?_,i + 1,rfl,by omega,hfi,rfl⟩
         · simp only [ssT,zav,zaw,setSlot,gOf,AV.ren,renL,Blk.ren,Ax.look,Ax.put,reduceCtorEq,↓reduceIte,Nat.reduceEqDiff,Nat.reduceLT,Nat.reduceAdd,List.length_append,List.length_cons,List.length_nil,Option.some.injEq]; try simp
         · simp only [ssT,zav,zaw,setSlot,gOf,AV.ren,renL,Blk.ren,Ax.look,Ax.put,reduceCtorEq,↓reduceIte,Nat.reduceEqDiff,Nat.reduceLT,Nat.reduceAdd,List.length_append,List.length_cons,List.length_nil,Option.some.injEq]; try simp
     · have d1 : decide ((i : Int) < l.length) = false := decide_eq_false (by omega)
       have hdr : l.drop i = [] := List.drop_eq_nil_of_le (by omega)
       rw [hdr] at hinv
       have hfi : fnW s2 k2 l 0 = -1 := hinv
       rw [hfi]
       simp only [go_sem,zaa,Nat.reduceAdd,Nat.reduceSub,Nat.reduceMul,Int.reduceToNat,reduceCtorEq,↓reduceIte,Int.reducePow,Nat.reducePow,Int.reduceMod,Nat.reduceLeDiff,Int.reduceLE,Int.reduceNe,Int.reduceEq,Nat.reduceEqDiff,Nat.reduceLT,Nat.reduceBEq,List.map_cons,List.map_nil,List.toList_toArray,Array.toList_append,Option.toArray_some,Option.toArray_none,Bool.and_self,ty,noS,Opl35,zby,hle,d1]
       refine ⟨_,Weak.refl _,?_⟩
       simp only [go_sem,zaa,Nat.reduceAdd,Nat.reduceSub,Nat.reduceMul,Int.reduceToNat,reduceCtorEq,↓reduceIte,Int.reducePow,Nat.reducePow,Int.reduceMod,Nat.reduceLeDiff,Int.reduceLE,Int.reduceNe,Int.reduceEq,Nat.reduceEqDiff,Nat.reduceLT,Nat.reduceBEq,List.map_cons,List.map_nil,List.toList_toArray,Array.toList_append,Option.toArray_some,Option.toArray_none,Bool.and_self,ty,noS,zby,cond_true]
       try (refine ⟨_,Weak.refl _,?_⟩)
       try simp only [go_sem,zaa,Nat.reduceAdd,Nat.reduceSub,Nat.reduceMul,Int.reduceToNat,reduceCtorEq,↓reduceIte,Int.reducePow,Nat.reducePow,Int.reduceMod,Nat.reduceLeDiff,Int.reduceLE,Int.reduceNe,Int.reduceEq,Nat.reduceEqDiff,Nat.reduceLT,Nat.reduceBEq,List.map_cons,List.map_nil,List.toList_toArray,Array.toList_append,Option.toArray_some,Option.toArray_none,Bool.and_self,ty,noS,zby,cond_true]
 · exact hp.elim
def OidxP (f : FuncId) : Option zay :=
 match f with
 | 53 => some idxPS
 | _ => none
theorem OidxP_ok : FnsO Try.prog OidxP := by
 intro f s h
 unfold OidxP at h
 split at h
 · injection h with h; subst h; exact ⟨⟨_,Try.func53,by kernel_rfl,by kernel_rfl⟩,idxP_sound⟩
 · cases h
theorem mpS_some (p : Nat × Int) : mpS (some p) = some (p.1,.w (.int .i64 p.2)) := rfl
theorem mpS_none : mpS none = none := rfl
theorem snoc_kvS (m : SM) (s : Int) (k : List UInt8) (v : Int) : kvS m ++ [(.agg [.w (.int .i64 s),.str k],.w (.int .i64 v))] = kvS (m ++ [((s,k),v)]) := by
 simp [kvS,kvSP]
def zfe : XPlan := fun id => match id with
 | 10 => .opn [] 3
 | _ => .std
theorem place35_sound : zbz Try.prog 50 zft := by
 refine zdq (S := SclW) (SO := OidxP) (T := ty) zdc ty_ok SclW_ok OidxP_ok Try.func50 (c := Try.f50.body.getD .skip) (by kernel_rfl) (fun xs pins hp _ => ?_)
 unfold zft at hp ⊢
 split at hp
 · rename_i Z L M D xs f s2 k2 _
   obtain ⟨hL,l,rfl,hris⟩ := hp
   rw [List.length_map] at hL
   rw [zam]
   have hle : (l.map wsA).length = l.length := by simp
   have hcl := zal l
   have hex : ∃ p : List WS,l.map wsA = p.map wsA := ⟨l,rfl⟩
   have hL6 : l.length ≤ 9223372036854775807 := by omega
   have hc : ∀ f,coe ty 29 (.sg 6 (l.map wsA) f) = .sg 6 (l.map wsA) f := fun f => by cases l <;> rfl
   obtain ⟨PL,hPL⟩ : ∃ n,plW s2 k2 l = n := ⟨_,rfl⟩
   obtain ⟨TH,hTH⟩ : ∃ n,thW s2 k2 l = n := ⟨_,rfl⟩
   refine ⟨by simp,zfe,by kernel_rfl,?_⟩
   unfold Try.f50
   simp only [go_sem,zaa,Nat.reduceAdd,Nat.reduceSub,Nat.reduceMul,Int.reduceToNat,reduceCtorEq,↓reduceIte,Int.reducePow,Nat.reducePow,Int.reduceMod,Nat.reduceLeDiff,Int.reduceLE,Int.reduceNe,Int.reduceEq,Nat.reduceEqDiff,Nat.reduceLT,Nat.reduceBEq,List.map_cons,List.map_nil,List.toList_toArray,Array.toList_append,Option.toArray_some,Option.toArray_none,Bool.and_self,ty,SclW,OidxP,zfe,hle]
   refine awpO_loopW ⟨fun m σ => ∃ j : Nat,m = l.length - j ∧ j ≤ l.length ∧
     σ = ⟨[.agg [.w (.int .i64 Z),.w (.int .i64 L),.w (.int .i64 M),.w (.int .i64 D),.sg 6 (l.map wsA) f],.agg [.w (.int .i64 s2),.str k2],.rf 4 5 0 0,.rf 5 2 0 0,.w (.int .i64 0),.w (.bool false),.rf 6 0 0 0,.junk,.junk,.junk,.junk,.junk,.junk,.junk,.sg 6 (l.map wsA) f,.w (.int .i64 l.length),.w (.int .i64 j),.junk,.junk,.junk,.junk,.junk,.junk,.junk,.junk,.junk,.junk,.junk,.junk,.junk,.junk,.junk,.junk,.junk,.junk,.junk,.junk,.junk,.junk,.junk,.junk,.junk,.junk,.junk],
       [(4,.g 5 [.agg [.w (.int .i64 Z),.w (.int .i64 L),.w (.int .i64 M),.w (.int .i64 D),.sg 6 (l.map wsA) f]]),(5,.g 2 [.agg [.w (.int .i64 s2),.str k2]]),(6,.o (.mp (kvS (enS (l.take j) 0))))],7⟩,?_,?_⟩
   · refine ⟨_,_,zao [0,1,2,3,4,12,36] rfl rfl rfl ?_ ?_,0,rfl,by omega,rfl⟩
     · simp only [ssT,zav,zaw,setSlot,gOf,AV.ren,renL,Blk.ren,Ax.look,Ax.put,reduceCtorEq,↓reduceIte,Nat.reduceEqDiff,Nat.reduceLT,Nat.reduceAdd,List.length_append,List.length_cons,List.length_nil,Option.some.injEq]; try simp
     · simp only [ssT,zav,zaw,setSlot,gOf,AV.ren,renL,Blk.ren,Ax.look,Ax.put,reduceCtorEq,↓reduceIte,Nat.reduceEqDiff,Nat.reduceLT,Nat.reduceAdd,List.length_append,List.length_cons,List.length_nil,Option.some.injEq]; try rfl
   · rintro m σ ⟨j,rfl,hj,rfl⟩
     by_cases hjl : j < l.length
     · have e1 : ((j : Int) + 1 + 9223372036854775808) % 18446744073709551616 - 9223372036854775808 = ((j + 1 : Nat) : Int) := by omega
       have d1 : decide ((j : Int) < l.length) = true := decide_eq_true (by omega)
       have hs1 := zcb l j hjl
       have hnew := ix_new l j hjl hris
       have htk : l.take (j + 1) = l.take j ++ [l[j]] := List.take_succ_eq_append_getElem hjl
       obtain ⟨r,hr⟩ : ∃ r,l[j] = r := ⟨_,rfl⟩
       rw [hr] at hs1 hnew htk
       obtain ⟨s,k,c,t,a,b⟩ := r
       have hs1 : slot (l.map wsA) j = .agg [.w (.int .i64 s),.str k,.w (.int .i64 c),.w (.int .i64 t),.w (.int .i64 a),.w (.int .i64 b)] := hs1
       simp only at hnew
       have hsn := enS_snoc ⟨s,k,c,t,a,b⟩ (l.take j) 0
       rw [← htk,List.length_take,Nat.zero_add,Nat.min_eq_left (by omega)] at hsn
       have hput := snoc_kvS (enS (l.take j) 0) s k j
       rw [← hsn] at hput
       simp only [go_sem,zaa,Nat.reduceAdd,Nat.reduceSub,Nat.reduceMul,Int.reduceToNat,reduceCtorEq,↓reduceIte,Int.reducePow,Nat.reducePow,Int.reduceMod,Nat.reduceLeDiff,Int.reduceLE,Int.reduceNe,Int.reduceEq,Nat.reduceEqDiff,Nat.reduceLT,Nat.reduceBEq,List.map_cons,List.map_nil,List.toList_toArray,Array.toList_append,Option.toArray_some,Option.toArray_none,Bool.and_self,ty,SclW,OidxP,zfe,spotS,hle,d1,hs1,e1,find_kvS,hnew,mpS_none,hput,Int.toNat_natCast]
       refine ⟨⟨by omega,by omega⟩,l.length - (j + 1),_,by omega,zao [0,1,2,3,4,5,6] rfl rfl rfl ?_ ?_,j + 1,rfl,by omega,rfl⟩
       · simp only [ssT,zav,zaw,setSlot,gOf,AV.ren,renL,Blk.ren,Ax.look,Ax.put,reduceCtorEq,↓reduceIte,Nat.reduceEqDiff,Nat.reduceLT,Nat.reduceAdd,List.length_append,List.length_cons,List.length_nil,Option.some.injEq]; try simp
       · simp only [ssT,zav,zaw,setSlot,gOf,AV.ren,renL,Blk.ren,Ax.look,Ax.put,reduceCtorEq,↓reduceIte,Nat.reduceEqDiff,Nat.reduceLT,Nat.reduceAdd,List.length_append,List.length_cons,List.length_nil,Option.some.injEq]; try simp
     · have d1 : decide ((j : Int) < l.length) = false := decide_eq_false (by omega)
       have hii : l.take j = l := List.take_of_length_le (by omega)
       rw [hii]
       have hix := ixS_en s2 k2 l 0 0
       cases TH with
       | true =>
         rw [hTH,if_pos rfl,eq_pl s2 k2 l hris hTH,hPL,Nat.zero_add] at hix
         simp only [go_sem,zaa,Nat.reduceAdd,Nat.reduceSub,Nat.reduceMul,Int.reduceToNat,reduceCtorEq,↓reduceIte,Int.reducePow,Nat.reducePow,Int.reduceMod,Nat.reduceLeDiff,Int.reduceLE,Int.reduceNe,Int.reduceEq,Nat.reduceEqDiff,Nat.reduceLT,Nat.reduceBEq,List.map_cons,List.map_nil,List.toList_toArray,Array.toList_append,Option.toArray_some,Option.toArray_none,Bool.and_self,ty,SclW,OidxP,zfe,hle,d1,find_kvS,hix,mpS_some,hPL,hTH,Int.toNat_natCast]
         refine ⟨_,Weak.refl _,?_⟩
         simp only [go_sem,zaa,Nat.reduceAdd,Nat.reduceSub,Nat.reduceMul,Int.reduceToNat,reduceCtorEq,↓reduceIte,Int.reducePow,Nat.reducePow,Int.reduceMod,Nat.reduceLeDiff,Int.reduceLE,Int.reduceNe,Int.reduceEq,Nat.reduceEqDiff,Nat.reduceLT,Nat.reduceBEq,List.map_cons,List.map_nil,List.toList_toArray,Array.toList_append,Option.toArray_some,Option.toArray_none,Bool.and_self,ty,SclW,OidxP,zfe,hle,d1,find_kvS,hix,mpS_some,hPL,hTH,Int.toNat_natCast,Bool.not_true,Bool.not_false]
         refine ⟨_,Weak.refl _,?_⟩
         simp only [go_sem,zaa,Nat.reduceAdd,Nat.reduceSub,Nat.reduceMul,Int.reduceToNat,reduceCtorEq,↓reduceIte,Int.reducePow,Nat.reducePow,Int.reduceMod,Nat.reduceLeDiff,Int.reduceLE,Int.reduceNe,Int.reduceEq,Nat.reduceEqDiff,Nat.reduceLT,Nat.reduceBEq,List.map_cons,List.map_nil,List.toList_toArray,Array.toList_append,Option.toArray_some,Option.toArray_none,Bool.and_self,ty,SclW]
       | false =>
         rw [hTH,if_neg (by simp)] at hix
         have hfn := fnW_idx s2 k2 l 0
         rw [hPL] at hfn
         simp only [go_sem,zaa,Nat.reduceAdd,Nat.reduceSub,Nat.reduceMul,Int.reduceToNat,reduceCtorEq,↓reduceIte,Int.reducePow,Nat.reducePow,Int.reduceMod,Nat.reduceLeDiff,Int.reduceLE,Int.reduceNe,Int.reduceEq,Nat.reduceEqDiff,Nat.reduceLT,Nat.reduceBEq,List.map_cons,List.map_nil,List.toList_toArray,Array.toList_append,Option.toArray_some,Option.toArray_none,Bool.and_self,ty,SclW,OidxP,zfe,idxPS,hle,hL6,hex,hc,d1,find_kvS,hix,mpS_none,zam,hPL,hTH,Int.toNat_natCast]
         refine ⟨_,Weak.refl _,?_⟩
         simp only [go_sem,zaa,Nat.reduceAdd,Nat.reduceSub,Nat.reduceMul,Int.reduceToNat,reduceCtorEq,↓reduceIte,Int.reducePow,Nat.reducePow,Int.reduceMod,Nat.reduceLeDiff,Int.reduceLE,Int.reduceNe,Int.reduceEq,Nat.reduceEqDiff,Nat.reduceLT,Nat.reduceBEq,List.map_cons,List.map_nil,List.toList_toArray,Array.toList_append,Option.toArray_some,Option.toArray_none,Bool.and_self,ty,SclW,OidxP,zfe,idxPS,hle,hL6,hex,hc,d1,find_kvS,hix,mpS_none,zam,hPL,hTH,Int.toNat_natCast,Bool.not_true,Bool.not_false]
         have hpl := plW_le s2 k2 l
         rw [hPL] at hpl
         refine ⟨fun h => ?_,fun h => ?_⟩
         · have hI : (l.length : Int) = (PL : Int) := by
             have h := of_decide_eq_true h
             by_cases hh : PL < l.length
             · rw [if_pos hh] at hfn; omega
             · omega
           rw [hI]
           refine ⟨_,Weak.refl _,?_⟩
           simp only [go_sem,zaa,Nat.reduceAdd,Nat.reduceSub,Nat.reduceMul,Int.reduceToNat,reduceCtorEq,↓reduceIte,Int.reducePow,Nat.reducePow,Int.reduceMod,Nat.reduceLeDiff,Int.reduceLE,Int.reduceNe,Int.reduceEq,Nat.reduceEqDiff,Nat.reduceLT,Nat.reduceBEq,List.map_cons,List.map_nil,List.toList_toArray,Array.toList_append,Option.toArray_some,Option.toArray_none,Bool.and_self,ty,SclW]
         · have hI : fnW s2 k2 l 0 = (PL : Int) := by
             have h := of_decide_eq_false h
             by_cases hh : PL < l.length
             · rw [if_pos hh] at hfn; omega
             · rw [if_neg hh] at hfn; omega
           rw [hI]
           refine ⟨_,Weak.refl _,?_⟩
           simp only [go_sem,zaa,Nat.reduceAdd,Nat.reduceSub,Nat.reduceMul,Int.reduceToNat,reduceCtorEq,↓reduceIte,Int.reducePow,Nat.reducePow,Int.reduceMod,Nat.reduceLeDiff,Int.reduceLE,Int.reduceNe,Int.reduceEq,Nat.reduceEqDiff,Nat.reduceLT,Nat.reduceBEq,List.map_cons,List.map_nil,List.toList_toArray,Array.toList_append,Option.toArray_some,Option.toArray_none,Bool.and_self,ty,SclW]
 · exact hp.elim
end
end Go.Proofs.Ytlpjdgkpapjldaa
