/- What the proofs of this seat stand on; it asks nothing. -/
import Derived.Test.YtlcijldkdpmknaaYa10
set_option linter.unusedSimpArgs false
set_option linter.unusedVariables false
namespace Go.Proofs.Ytlcijldkdpmknaa
open Ax
structure Idx where
 v : Int
 c : Int
 es : List Ent
def addI (x : Idx) (e : Ent) : Idx := ⟨x.v,inc x.c,if zdq x.v x.c then x.es ++ [⟨e.o,lastT e.t x.es,e.a⟩] else x.es⟩
def bldI (v : Int) (es : List Ent) : Idx := es.foldl addI ⟨max v 1,0,[]⟩
def iav (x : Idx) (f : Bool) : AV := .agg [.w (.int .i64 x.v),.w (.int .i64 x.c),.sg 3 (x.es.map ent) f]
def empE (es : List Ent) : Bool := es.isEmpty
theorem empE_nil : empE [] = true := rfl
def zbq : zam
 | [.w (.int .i64 v)],[] => ⟨True,.agg [.w (.int .i64 (max v 1)),.w (.int .i64 0),.sg 3 [] true],[]⟩
 | _,_ => zay
def buildI12S : zam
 | [.w (.int .i64 v),.sg 3 xs f],[] => ⟨xs.length ≤ 100000 ∧ ∃ es : List Ent,xs = es.map ent,iav (bldI v (xs.map uent)) (empE (bldI v (xs.map uent)).es),[]⟩
 | _,_ => zay
section
set_option maxRecDepth 100000
theorem newI12_sound : zaq Try.prog 51 zbq := by
 refine zak (S := noS) (T := ty) zat ty_ok zbo Try.func51 (c := Try.f51.body.getD .skip) (by kernel_rfl) (by kernel_rfl) (fun xs pins hp _ => ?_)
 unfold zbq at hp ⊢
 split at hp
 · rename_i v _
   refine ⟨by simp,?_⟩
   have em1 : (if v > 1 then v else 1) = max v 1 := by split <;> omega
   have em2 : (if (1 : Int) > v then 1 else v) = max v 1 := by split <;> omega
   unfold Try.f51
   simp only [go_sem,coe,zaa,Nat.reduceAdd,Nat.reduceSub,Nat.reduceMul,Int.reduceToNat,reduceCtorEq,↓reduceIte,Int.reducePow,Nat.reducePow,Int.reduceMod,Nat.reduceLeDiff,Int.reduceLE,Int.reduceNe,Int.reduceEq,Nat.reduceEqDiff,Nat.reduceLT,Nat.reduceBEq,ty,noS,em1,em2,fillS]
 · exact hp.elim
end
def zch (f : FuncId) : Option zam :=
 match f with
 | 51 => some zbq
 | _ => none
theorem Sbuild12_ok : Fns Try.prog zch := by
 intro f s h
 unfold zch at h
 split at h
 · injection h with h; subst h; exact ⟨⟨_,Try.func51,by kernel_rfl,by kernel_rfl⟩,newI12_sound⟩
 · cases h
def zci (f : FuncId) : Option zam :=
 match f with
 | 52 => some putO
 | _ => none
theorem Obuild12_ok : FnsO Try.prog zci := by
 intro f s h
 unfold zci at h
 split at h
 · injection h with h; subst h; exact ⟨⟨_,Try.func52,by kernel_rfl,by kernel_rfl⟩,putO_sound⟩
 · cases h
def zcb : XPlan := fun id => match id with
 | 5 => .opn [] 1
 | _ => .std
theorem weak_fgB {sl : List AV} {H : Heap} {nx : Nat} (id s i id0 : Nat) (zs : List AV) (b0 : Blk) (hl : Ax.look H id = some (.g s zs)) (hcl : closedL zs = true) (h0 : Ax.look H id0 = some b0) (hi0 : id0 ∈ (slot sl i).ids) (hin : id ∈ b0.idsB) : Weak ⟨sl,H,nx⟩ ⟨fgL id s zs sl,fgH id s zs H,nx⟩ := by
 rintro w0 E B a w ⟨loc,hB,hr⟩
 have h1 := zdn _ _ (hr.slots i) hi0
 have h2 : loc.m id ≠ .free := by
   obtain ⟨hok,⟨_,e⟩ | ⟨c,hc,hlies⟩⟩ := hr.heap.get h0 h1
   · rw [idsB_nil e] at hin; simp at hin
   · exact lies_live hlies id hin
 obtain ⟨h3,h4⟩ := rel_fg hB hr h2 (hr.heap id _ hl) hcl
 exact ⟨_,h3,h4⟩
theorem fold_snoc (x : Idx) (es : List Ent) (i : Nat) (h : i < es.length) : (es.take (i + 1)).foldl addI x = addI ((es.take i).foldl addI x) es[i] := by
 rw [List.take_succ_eq_append_getElem h,List.foldl_append]; rfl
theorem fold_v : ∀ (es : List Ent) (x : Idx),(es.foldl addI x).v = x.v
 | [],_ => rfl
 | e :: es,x => by rw [List.foldl_cons,fold_v es]; rfl
theorem addI_len (x : Idx) (e : Ent) : (addI x e).es.length ≤ x.es.length + 1 := by
 unfold addI; simp only; split <;> simp
theorem fold_len : ∀ (es : List Ent) (x : Idx),(es.foldl addI x).es.length ≤ x.es.length + es.length
 | [],_ => Nat.le_refl _
 | e :: es,x => by
   have h1 := fold_len es (addI x e)
   have h2 := addI_len x e
   rw [List.foldl_cons,List.length_cons]; omega
theorem addI_pos (x : Idx) (e : Ent) (h : x.es ≠ [] ∨ zdq x.v x.c) : (addI x e).es ≠ [] := by
 unfold addI; simp only
 split
 · simp
 · rename_i hn; rcases h with h | h
   · exact h
   · exact (hn h).elim
section
set_option maxRecDepth 100000
set_option maxHeartbeats 2000000 in
theorem buildI12_sound : zaq Try.prog 34 buildI12S := by
 refine fn_soundOK (S := zch) (SO := zci) (T := ty) zat ty_ok Sbuild12_ok Obuild12_ok Try.func34 (c := Try.f34.body.getD .skip) (by kernel_rfl) (fun xs pins hp _ => ?_)
 unfold buildI12S at hp ⊢
 split at hp
 · rename_i v xs f _
   obtain ⟨hL,es,rfl⟩ := hp
   rw [List.length_map] at hL
   refine ⟨by simp,zcb,by kernel_rfl,?_⟩
   have hle : (es.map ent).length = es.length := by simp
   obtain ⟨V,hV⟩ : ∃ V,max v 1 = V := ⟨_,rfl⟩
   have hV1 : 1 ≤ V := by omega
   have hbld : bldI v es = es.foldl addI ⟨V,0,[]⟩ := by rw [← hV]; rfl
   unfold Try.f34
   simp only [go_sem,zad,Nat.reduceAdd,Nat.reduceSub,Nat.reduceMul,Int.reduceToNat,reduceCtorEq,↓reduceIte,Int.reducePow,Nat.reducePow,Int.reduceMod,Nat.reduceLeDiff,Int.reduceLE,Int.reduceNe,Int.reduceEq,Nat.reduceEqDiff,Nat.reduceLT,Nat.reduceBEq,List.map_cons,List.map_nil,List.toList_toArray,Array.toList_append,Option.toArray_some,Option.toArray_none,Bool.and_self,ty,noS,zch,zci,zcb,zbq,putO,hle,hV,zco,fillS]
   refine awpO_loopW ⟨fun m σ => ∃ i : Nat,m = es.length - i ∧ i ≤ es.length ∧
       ((i = 0 ∧ σ = ⟨[.w (.int .i64 v),.sg 3 (es.map ent) f,.junk,.junk,.rf 4 3 0 0,.rf 5 3 0 0,.junk,.junk,.junk,.junk,.sg 3 (es.map ent) f,.w (.int .i64 es.length),.w (.int .i64 0),.junk,.junk,.junk,.junk,.junk,.junk,.junk],[(5,.g 3 [.agg [.w (.int .i64 V),.w (.int .i64 0),.sg 3 [] true]]),(4,.g 3 [.agg [.w (.int .i64 0),.w (.int .i64 0),.sg 3 [] true]])],6⟩) ∨
        (0 < i ∧ ∃ X : Idx,X = (es.take i).foldl addI ⟨V,0,[]⟩ ∧ X.es ≠ [] ∧ σ = ⟨[.w (.int .i64 v),.sg 3 (es.map ent) f,.junk,.junk,.rf 4 3 0 0,.rf 5 3 0 0,.junk,.junk,.junk,.junk,.sg 3 (es.map ent) f,.w (.int .i64 es.length),.w (.int .i64 i),.junk,.junk,.junk,.junk,.junk,.junk,.junk],[(5,.g 3 [.agg [.w (.int .i64 V),.w (.int .i64 X.c),.ms 6 3 0 X.es.length]]),(4,.g 3 [.agg [.w (.int .i64 0),.w (.int .i64 0),.sg 3 [] true]]),(6,.g 3 (X.es.map ent))],7⟩)),?_,?_⟩
   · refine ⟨_,_,zab [0,1,2,3,4,28] rfl rfl rfl ?_ ?_,0,rfl,by omega,.inl ⟨rfl,rfl⟩⟩
     · simp only [ssT,zae,zaf,setSlot,gOf,AV.ren,renL,Blk.ren,Ax.look,Ax.put,reduceCtorEq,↓reduceIte,Nat.reduceEqDiff,Nat.reduceLT,Nat.reduceAdd,List.length_append,List.length_cons,List.length_nil,Option.some.injEq]; try simp
     · simp only [ssT,zae,zaf,setSlot,gOf,AV.ren,renL,Blk.ren,Ax.look,Ax.put,reduceCtorEq,↓reduceIte,Nat.reduceEqDiff,Nat.reduceLT,Nat.reduceAdd,List.length_append,List.length_cons,List.length_nil,Option.some.injEq]
   · rintro m σ ⟨i,rfl,hi,hσ⟩
     rcases hσ with ⟨rfl,rfl⟩ | ⟨hi0,X,hX,hne,rfl⟩
     · by_cases hil : 0 < es.length
       · have d1 : decide ((0 : Int) < es.length) = true := decide_eq_true (by omega)
         have hs1 := slot_ent es 0 hil
         have ht : zdq V 0 := .inr (by simp)
         have hf := fold_snoc ⟨V,0,[]⟩ es 0 hil
         obtain ⟨P,hP⟩ : ∃ P,es[0] = P := ⟨_,rfl⟩
         rw [hP] at hs1 hf
         simp only [ent] at hs1
         have hf2 : (es.take 1).foldl addI ⟨V,0,[]⟩ = ⟨V,inc 0,[P]⟩ := by
           rw [hf]; show addI ⟨V,0,[]⟩ P = _
           unfold addI; simp only; rw [if_pos ht]; rfl
         simp only [go_sem,zad,Nat.reduceAdd,Nat.reduceSub,Nat.reduceMul,Int.reduceToNat,reduceCtorEq,↓reduceIte,Int.reducePow,Nat.reducePow,Int.reduceMod,Nat.reduceLeDiff,Int.reduceLE,Int.reduceNe,Int.reduceEq,Nat.reduceEqDiff,Nat.reduceLT,Nat.reduceBEq,List.map_cons,List.map_nil,List.toList_toArray,Array.toList_append,Option.toArray_some,Option.toArray_none,Bool.and_self,ty,noS,zch,zci,zcb,zbq,putO,hle,d1,hs1,ht,fillS,Int.toNat_zero]
         refine ⟨hil,es.length - 1,_,by omega,zab [0,1,2,3,4,5,54] rfl rfl rfl ?_ ?_,1,rfl,by omega,.inr ⟨by omega,⟨V,inc 0,[P]⟩,hf2.symm,by simp,rfl⟩⟩
         · simp only [ssT,zae,zaf,setSlot,gOf,AV.ren,renL,Blk.ren,Ax.look,Ax.put,reduceCtorEq,↓reduceIte,Nat.reduceEqDiff,Nat.reduceLT,Nat.reduceAdd,List.length_append,List.length_cons,List.length_nil,Option.some.injEq]; try simp
         · simp only [ssT,zae,zaf,setSlot,gOf,AV.ren,renL,Blk.ren,Ax.look,Ax.put,reduceCtorEq,↓reduceIte,Nat.reduceEqDiff,Nat.reduceLT,Nat.reduceAdd,List.length_append,List.length_cons,List.length_nil,Option.some.injEq,ren_ent]; try simp [ent]
       · have d1 : decide ((0 : Int) < es.length) = false := decide_eq_false (by omega)
         obtain rfl : es = [] := List.eq_nil_of_length_eq_zero (by omega)
         have hb : bldI v [] = ⟨V,0,[]⟩ := by rw [hbld]; rfl
         have z0 : decide ((0 : Int) < ((0 : Nat) : Int)) = false := rfl
         simp only [go_sem,zad,Nat.reduceAdd,Nat.reduceSub,Nat.reduceMul,Int.reduceToNat,reduceCtorEq,↓reduceIte,Int.reducePow,Nat.reducePow,Int.reduceMod,Nat.reduceLeDiff,Int.reduceLE,Int.reduceNe,Int.reduceEq,Nat.reduceEqDiff,Nat.reduceLT,Nat.reduceBEq,List.map_cons,List.map_nil,List.toList_toArray,Array.toList_append,Option.toArray_some,Option.toArray_none,Bool.and_self,ty,noS,zch,zci,zcb,zbq,putO,z0,hb,iav,empE_nil,List.map_nil,fillS]
         refine ⟨_,Weak.refl _,?_⟩
         simp only [go_sem,zad,Nat.reduceAdd,Nat.reduceSub,Nat.reduceMul,Int.reduceToNat,reduceCtorEq,↓reduceIte,Int.reducePow,Nat.reducePow,Int.reduceMod,Nat.reduceLeDiff,Int.reduceLE,Int.reduceNe,Int.reduceEq,Nat.reduceEqDiff,Nat.reduceLT,Nat.reduceBEq,List.map_cons,List.map_nil,List.toList_toArray,Array.toList_append,Option.toArray_some,Option.toArray_none,Bool.and_self,ty,noS,zch,zci,zcb,zbq,putO,hb,iav,empE_nil,List.map_nil,fillS]
         refine ⟨_,Weak.refl _,?_⟩
         simp only [go_sem,zad,Nat.reduceAdd,Nat.reduceSub,Nat.reduceMul,Int.reduceToNat,reduceCtorEq,↓reduceIte,Int.reducePow,Nat.reducePow,Int.reduceMod,Nat.reduceLeDiff,Int.reduceLE,Int.reduceNe,Int.reduceEq,Nat.reduceEqDiff,Nat.reduceLT,Nat.reduceBEq,List.map_cons,List.map_nil,List.toList_toArray,Array.toList_append,Option.toArray_some,Option.toArray_none,Bool.and_self,ty,noS,zch,zci,zcb,zbq,putO,hb,iav,empE_nil,List.map_nil,fillS]
     · have hXv : X.v = V := by rw [hX,fold_v]
       have hXl : X.es.length ≤ i := by
         have := fold_len (es.take i) ⟨V,0,[]⟩
         rw [← hX,List.length_take] at this
         simp at this; omega
       have hpos : 0 < X.es.length := by cases hq : X.es with | nil => exact absurd hq hne | cons _ _ => simp
       have dpos : decide (0 < X.es.length) = true := decide_eq_true hpos
       have hxl : (X.es.map ent).length = X.es.length := by simp
       have hx1 : ∃ qs : List Ent,X.es.map ent = qs.map ent := ⟨X.es,rfl⟩
       by_cases hil : i < es.length
       · have d1 : decide ((i : Int) < es.length) = true := decide_eq_true (by omega)
         have e1 : ((i : Int) + 1 + 9223372036854775808) % 18446744073709551616 - 9223372036854775808 = ((i + 1 : Nat) : Int) := by omega
         have hm : X.es.length ≤ 1000000 := by omega
         have hs1 := slot_ent es i hil
         have hf := fold_snoc ⟨V,0,[]⟩ es i hil
         obtain ⟨P,hP⟩ : ∃ P,es[i] = P := ⟨_,rfl⟩
         rw [hP] at hs1 hf
         rw [← hX] at hf
         simp only [ent] at hs1
         have hne2 := addI_pos X P (.inl hne)
         by_cases ht : zdq X.v X.c
         · have hcl : closedL (X.es.map ent ++ [.agg [.w (.int .i64 P.o),.w (.int .i64 (lastT P.t X.es)),.w (.int .i64 P.a)]]) = true := by
             have := zbg (X.es ++ [⟨P.o,lastT P.t X.es,P.a⟩])
             simpa [ent] using this
           have ha : addI X P = ⟨V,inc X.c,X.es ++ [⟨P.o,lastT P.t X.es,P.a⟩]⟩ := by unfold addI; rw [if_pos ht,hXv]
           rw [hXv] at ht
           simp only [go_sem,zad,Nat.reduceAdd,Nat.reduceSub,Nat.reduceMul,Int.reduceToNat,reduceCtorEq,↓reduceIte,Int.reducePow,Nat.reducePow,Int.reduceMod,Nat.reduceLeDiff,Int.reduceLE,Int.reduceNe,Int.reduceEq,Nat.reduceEqDiff,Nat.reduceLT,Nat.reduceBEq,List.map_cons,List.map_nil,List.toList_toArray,Array.toList_append,Option.toArray_some,Option.toArray_none,Bool.and_self,ty,noS,zch,zci,zcb,zbq,putO,hle,d1,hs1,e1,ht,dpos,hpos,hm,hxl,hx1,zco,zbg,hcl,fillS,Int.toNat_natCast]
           repeat (refine And.intro (by omega) ?_)
           refine ⟨es.length - (i + 1),_,by omega,zab [0,1,2,3,4,5,55] rfl rfl rfl ?_ ?_,i + 1,rfl,by omega,.inr ⟨by omega,addI X P,hf.symm,hne2,rfl⟩⟩
           · simp only [ssT,zae,zaf,setSlot,gOf,AV.ren,renL,Blk.ren,Ax.look,Ax.put,reduceCtorEq,↓reduceIte,Nat.reduceEqDiff,Nat.reduceLT,Nat.reduceAdd,List.length_append,List.length_cons,List.length_nil,Option.some.injEq]; try simp
           · simp only [ssT,zae,zaf,setSlot,gOf,AV.ren,renL,Blk.ren,Ax.look,Ax.put,reduceCtorEq,↓reduceIte,Nat.reduceEqDiff,Nat.reduceLT,Nat.reduceAdd,List.length_append,List.length_cons,List.length_nil,Option.some.injEq,ha,ren_ent]; try simp [ent]
         · have ha : addI X P = ⟨V,inc X.c,X.es⟩ := by unfold addI; rw [if_neg ht,hXv]
           rw [hXv] at ht
           simp only [go_sem,zad,Nat.reduceAdd,Nat.reduceSub,Nat.reduceMul,Int.reduceToNat,reduceCtorEq,↓reduceIte,Int.reducePow,Nat.reducePow,Int.reduceMod,Nat.reduceLeDiff,Int.reduceLE,Int.reduceNe,Int.reduceEq,Nat.reduceEqDiff,Nat.reduceLT,Nat.reduceBEq,List.map_cons,List.map_nil,List.toList_toArray,Array.toList_append,Option.toArray_some,Option.toArray_none,Bool.and_self,ty,noS,zch,zci,zcb,zbq,putO,hle,d1,hs1,e1,ht,dpos,hpos,hm,hxl,hx1,zco,zbg,fillS,Int.toNat_natCast]
           repeat (refine And.intro (by omega) ?_)
           refine ⟨es.length - (i + 1),_,by omega,zab [0,1,2,3,4,5,6] rfl rfl rfl ?_ ?_,i + 1,rfl,by omega,.inr ⟨by omega,addI X P,hf.symm,hne2,rfl⟩⟩
           · simp only [ssT,zae,zaf,setSlot,gOf,AV.ren,renL,Blk.ren,Ax.look,Ax.put,reduceCtorEq,↓reduceIte,Nat.reduceEqDiff,Nat.reduceLT,Nat.reduceAdd,List.length_append,List.length_cons,List.length_nil,Option.some.injEq]; try simp
           · simp only [ssT,zae,zaf,setSlot,gOf,AV.ren,renL,Blk.ren,Ax.look,Ax.put,reduceCtorEq,↓reduceIte,Nat.reduceEqDiff,Nat.reduceLT,Nat.reduceAdd,List.length_append,List.length_cons,List.length_nil,Option.some.injEq,ha,ren_ent]; try simp
       · have d1 : decide ((i : Int) < es.length) = false := decide_eq_false (by omega)
         have hb : bldI v es = ⟨V,X.c,X.es⟩ := by
           rw [hbld]
           have : es.take i = es := List.take_of_length_le (by omega)
           rw [this] at hX
           rw [← hX]
           rw [← hXv]
         have hem : empE X.es = false := by unfold empE; cases hq : X.es with | nil => exact absurd hq hne | cons _ _ => rfl
         have hdle : decide (0 + X.es.length ≤ (X.es.map ent).length) = true := decide_eq_true (by rw [hxl]; omega)
         have htk : (X.es.map ent).take X.es.length = X.es.map ent := List.take_of_length_le (by rw [hxl]; omega)
         simp only [go_sem,zad,Nat.reduceAdd,Nat.reduceSub,Nat.reduceMul,Int.reduceToNat,reduceCtorEq,↓reduceIte,Int.reducePow,Nat.reducePow,Int.reduceMod,Nat.reduceLeDiff,Int.reduceLE,Int.reduceNe,Int.reduceEq,Nat.reduceEqDiff,Nat.reduceLT,Nat.reduceBEq,List.map_cons,List.map_nil,List.toList_toArray,Array.toList_append,Option.toArray_some,Option.toArray_none,Bool.and_self,ty,noS,zch,zci,zcb,zbq,putO,d1]
         refine ⟨_,weak_fgB 6 3 5 5 (X.es.map ent) _ rfl (zbg _) rfl (by simp [slot,AV.ids]) (by simp [Blk.idsB,Blk.closed,closedL,AV.closed,idsL,AV.ids]),?_⟩
         simp only [fgL,fgH,AV.fg,Blk.fg,Nat.reduceBEq,cond_true,cond_false,hdle,Bool.and_true,beq_self_eq_true,Bool.true_and,List.drop_zero,htk]
         simp only [go_sem,zad,Nat.reduceAdd,Nat.reduceSub,Nat.reduceMul,Int.reduceToNat,reduceCtorEq,↓reduceIte,Int.reducePow,Nat.reducePow,Int.reduceMod,Nat.reduceLeDiff,Int.reduceLE,Int.reduceNe,Int.reduceEq,Nat.reduceEqDiff,Nat.reduceLT,Nat.reduceBEq,List.map_cons,List.map_nil,List.toList_toArray,Array.toList_append,Option.toArray_some,Option.toArray_none,Bool.and_self,ty,noS,zch,zci,zcb,zbq,putO,hb,iav,hem,fillS]
         refine ⟨_,Weak.refl _,?_⟩
         simp only [go_sem,zad,Nat.reduceAdd,Nat.reduceSub,Nat.reduceMul,Int.reduceToNat,reduceCtorEq,↓reduceIte,Int.reducePow,Nat.reducePow,Int.reduceMod,Nat.reduceLeDiff,Int.reduceLE,Int.reduceNe,Int.reduceEq,Nat.reduceEqDiff,Nat.reduceLT,Nat.reduceBEq,List.map_cons,List.map_nil,List.toList_toArray,Array.toList_append,Option.toArray_some,Option.toArray_none,Bool.and_self,ty,noS,zch,zci,zcb,zbq,putO,hb,iav,hem,fillS]
 · exact hp.elim
end
end Go.Proofs.Ytlcijldkdpmknaa
namespace Go.Proofs.Ytlcijldkdpmknaa
open Ax
def eqfBS : zam
 | [.sg 6 xs f,.sg 6 ys g,.fn id []],[] => ⟨id = 45 ∧ (xs.length ≤ 1000000 ∧ ∃ es : List (Bat × Bool),xs = es.map bvp ∧ ∀ p ∈ es,p.1.rs.length ≤ 1000000) ∧ ys.length ≤ 1000000 ∧ ∃ gs : List (Bat × Bool),ys = gs.map bvp ∧ ∀ p ∈ gs,p.1.rs.length ≤ 1000000,.w (.bool (decide (xs.map ubat = ys.map ubat))),[]⟩
 | _,_ => zay
def ssameS : zam
 | [.agg [.w (.int .i64 B),.sg 6 xs f],.agg [.w (.int .i64 D),.sg 6 ys g]],[] => ⟨(xs.length ≤ 1000000 ∧ isBl xs) ∧ ys.length ≤ 1000000 ∧ isBl ys,.w (.bool (decide (B = D) && decide (xs.map ubat = ys.map ubat))),[]⟩
 | _,_ => zay
def spL (l : List Bat) : List Ent := l.zipIdx.map fun p => ⟨p.1.b,newL p.1.rs,(p.2 : Int)⟩
theorem spL_snoc (l : List Bat) (x : Bat) : spL (l ++ [x]) = spL l ++ [⟨x.b,newL x.rs,(l.length : Int)⟩] := by
 unfold spL; rw [List.zipIdx_append]; simp
theorem spL_len (l : List Bat) : (spL l).length = l.length := by unfold spL; simp
theorem zef : ∀ (l : List Ent),idsL (l.map ent) = []
 | [] => rfl
 | x :: r => by simp only [List.map_cons,idsL,ent,AV.ids,List.nil_append]; exact zef r
theorem ids_rvJ : ∀ (l : List Rec),idsL (l.map rv) = []
 | [] => rfl
 | x :: r => by simp only [List.map_cons,idsL,rv,AV.ids,List.nil_append]; exact ids_rvJ r
def sparS : zam
 | [.agg [.w (.int .i64 B),.sg 6 xs f],.w (.int .i64 v)],[] => ⟨xs.length ≤ 90000 ∧ isBl xs,iav (bldI v (spL (xs.map ubat))) (empE (bldI v (spL (xs.map ubat))).es),[]⟩
 | _,_ => zay
def SeqfB (f : FuncId) : Option zam :=
 match f with
 | 45 => some bsameS4
 | _ => none
theorem SeqfB_ok : Fns Try.prog SeqfB := by
 intro f s h
 unfold SeqfB at h
 split at h
 · injection h with h; subst h; exact ⟨⟨_,Try.func45,by kernel_rfl,by kernel_rfl⟩,bsame4_sound⟩
 · cases h
section
set_option maxRecDepth 100000
set_option maxHeartbeats 2000000 in
theorem eqfB_sound : zaq Try.prog 44 eqfBS := by
 refine zak (S := SeqfB) (T := ty) zat ty_ok SeqfB_ok Try.func44 (c := Try.f44.body.getD .skip) (by kernel_rfl) (by kernel_rfl) (fun xs pins hp _ => ?_)
 unfold eqfBS at hp ⊢
 split at hp
 · rename_i xs f ys g id _
   obtain ⟨rfl,⟨hL1,es,rfl,he⟩,hL2,gs,rfl,hg⟩ := hp
   rw [List.length_map] at hL1 hL2
   rw [zaz,zaz]
   refine ⟨by simp,?_⟩
   have hlp : (es.map bvp).length = es.length := by simp
   have hlq : (gs.map bvp).length = gs.length := by simp
   have hla : (es.map Prod.fst).length = es.length := by simp
   have hlb : (gs.map Prod.fst).length = gs.length := by simp
   unfold Try.f44
   by_cases hl : es.length = gs.length
   · have d0 : decide ((es.length : Int) = gs.length) = true := decide_eq_true (by omega)
     have hk : es.map Prod.fst = gs.map Prod.fst ↔ ∀ j (h : j < es.length) (h' : j < gs.length),es[j].1 = gs[j].1 := by
       constructor
       · intro h j h1 h2
         have := List.getElem_of_eq h (i := j) (by omega)
         simpa using this
       · intro h
         refine List.ext_getElem (by omega) ?_
         intro j h1 h2
         simpa using h j (by omega) (by omega)
     simp only [go_sem,zaa,Nat.reduceAdd,Nat.reduceSub,Nat.reduceMul,Int.reduceToNat,reduceCtorEq,↓reduceIte,Int.reducePow,Nat.reducePow,Int.reduceMod,Nat.reduceLeDiff,Int.reduceLE,Int.reduceNe,Int.reduceEq,Nat.reduceEqDiff,Nat.reduceLT,Nat.reduceBEq,ty,SeqfB,hlp,hlq,d0]
     refine zas ⟨fun m σ => ∃ i : Nat,m = es.length - i ∧ i ≤ es.length ∧ (∀ j (h : j < es.length) (h' : j < gs.length),j < i → es[j].1 = gs[j].1) ∧
         σ = ⟨[.sg 6 (es.map bvp) f,.sg 6 (gs.map bvp) g,.fn 45 [],.junk,.junk,.junk,.junk,.junk,.junk,.junk,.junk,.junk,.junk,.junk,.junk,.sg 6 (es.map bvp) f,.w (.int .i64 es.length),.w (.int .i64 i),.junk,.junk,.junk,.junk,.junk,.junk,.junk,.junk,.junk,.junk,.junk,.junk,.junk,.junk],[],4⟩,?_,?_⟩
     · refine ⟨_,_,zab [0,1,2,3] rfl rfl rfl ?_ ?_,0,rfl,by omega,by intro j _ _ h; omega,rfl⟩
       · simp only [ssT,zae,zaf,setSlot,gOf,AV.ren,renL,Blk.ren,Ax.look,Ax.put,reduceCtorEq,↓reduceIte,Nat.reduceEqDiff,Nat.reduceLT,Nat.reduceAdd,List.length_append,List.length_cons,List.length_nil,Option.some.injEq]; simp
       · simp only [ssT,zae,zaf,setSlot,gOf,AV.ren,renL,Blk.ren,Ax.look,Ax.put,reduceCtorEq,↓reduceIte,Nat.reduceEqDiff,Nat.reduceLT,Nat.reduceAdd,List.length_append,List.length_cons,List.length_nil,Option.some.injEq]
     · rintro m σ ⟨i,rfl,hi,hall,rfl⟩
       by_cases hil : i < es.length
       · have d1 : decide ((i : Int) < es.length) = true := decide_eq_true (by omega)
         have e1 : ((i : Int) + 1 + 9223372036854775808) % 18446744073709551616 - 9223372036854775808 = ((i + 1 : Nat) : Int) := by omega
         have hiq : i < gs.length := by omega
         have hs1 := zbb es i hil
         have hs2 := zbb gs i hiq
         have m1 := he es[i] (List.getElem_mem hil)
         have m2 := hg gs[i] (List.getElem_mem hiq)
         obtain ⟨P,hP⟩ : ∃ P,es[i] = P := ⟨_,rfl⟩
         obtain ⟨Q,hQ⟩ : ∃ Q,gs[i] = Q := ⟨_,rfl⟩
         rw [hP] at hs1 m1
         rw [hQ] at hs2 m2
         obtain ⟨⟨b,c,p,e,s,rs⟩,f'⟩ := P
         obtain ⟨⟨b',c',p',e',s',qs⟩,g'⟩ := Q
         have hs1 : slot (es.map bvp) i = .agg [.w (.int .i64 b),.w (.int .i64 c),.w (.int .i64 p),.w (.int .i64 e),.w (.int .i64 s),.sg 6 (rs.map rv) f'] := hs1
         have hs2 : slot (gs.map bvp) i = .agg [.w (.int .i64 b'),.w (.int .i64 c'),.w (.int .i64 p'),.w (.int .i64 e'),.w (.int .i64 s'),.sg 6 (qs.map rv) g'] := hs2
         have n1 : (rs.map rv).length ≤ 9223372036854775807 := by rw [List.length_map]; simp only at m1; omega
         have n2 : (qs.map rv).length ≤ 9223372036854775807 := by rw [List.length_map]; simp only at m2; omega
         have x1 : ∃ k : List Rec,rs.map rv = k.map rv := ⟨rs,rfl⟩
         have x2 : ∃ k : List Rec,qs.map rv = k.map rv := ⟨qs,rfl⟩
         have r1 := zaj rs
         have r2 := zaj qs
         have hbs := bsame_decJ b c p e s rs b' c' p' e' s' qs
         by_cases ha : (⟨b,c,p,e,s,rs⟩ : Bat) = ⟨b',c',p',e',s',qs⟩
         · rw [decide_eq_true ha] at hbs
           simp only [go_sem,zaa,Nat.reduceAdd,Nat.reduceSub,Nat.reduceMul,Int.reduceToNat,reduceCtorEq,↓reduceIte,Int.reducePow,Nat.reducePow,Int.reduceMod,Nat.reduceLeDiff,Int.reduceLE,Int.reduceNe,Int.reduceEq,Nat.reduceEqDiff,Nat.reduceLT,Nat.reduceBEq,ty,SeqfB,bsameS4,hlp,hlq,d1,hs1,hs2,e1,n1,n2,x1,x2,r1,r2,hbs,Int.toNat_natCast]
           repeat (refine And.intro (by omega) ?_)
           refine ⟨es.length - (i + 1),_,by omega,zab [0,1,2,3] rfl rfl rfl ?_ ?_,i + 1,rfl,by omega,?_,rfl⟩
           · simp only [ssT,zae,zaf,setSlot,gOf,AV.ren,renL,Blk.ren,Ax.look,Ax.put,reduceCtorEq,↓reduceIte,Nat.reduceEqDiff,Nat.reduceLT,Nat.reduceAdd,List.length_append,List.length_cons,List.length_nil,Option.some.injEq]
           · simp only [ssT,zae,zaf,setSlot,gOf,AV.ren,renL,Blk.ren,Ax.look,Ax.put,reduceCtorEq,↓reduceIte,Nat.reduceEqDiff,Nat.reduceLT,Nat.reduceAdd,List.length_append,List.length_cons,List.length_nil,Option.some.injEq]
           · intro j h h' hj
             rcases Nat.lt_or_ge j i with h2 | h2
             · exact hall j h h' h2
             · have : j = i := by omega
               subst this
               rw [hP,hQ]; exact ha
         · have dr : decide (es.map Prod.fst = gs.map Prod.fst) = false := decide_eq_false (fun h => ha (by have := hk.1 h i hil hiq; rw [hP,hQ] at this; exact this))
           rw [decide_eq_false ha] at hbs
           simp only [go_sem,zaa,Nat.reduceAdd,Nat.reduceSub,Nat.reduceMul,Int.reduceToNat,reduceCtorEq,↓reduceIte,Int.reducePow,Nat.reducePow,Int.reduceMod,Nat.reduceLeDiff,Int.reduceLE,Int.reduceNe,Int.reduceEq,Nat.reduceEqDiff,Nat.reduceLT,Nat.reduceBEq,ty,SeqfB,bsameS4,hlp,hlq,d1,hs1,hs2,e1,n1,n2,x1,x2,r1,r2,hbs,dr,Int.toNat_natCast]
           all_goals omega
       · have d1 : decide ((i : Int) < es.length) = false := decide_eq_false (by omega)
         have dr : decide (es.map Prod.fst = gs.map Prod.fst) = true := decide_eq_true (hk.2 fun j h h' => hall j h h' (by omega))
         simp only [go_sem,zaa,Nat.reduceAdd,Nat.reduceSub,Nat.reduceMul,Int.reduceToNat,reduceCtorEq,↓reduceIte,Int.reducePow,Nat.reducePow,Int.reduceMod,Nat.reduceLeDiff,Int.reduceLE,Int.reduceNe,Int.reduceEq,Nat.reduceEqDiff,Nat.reduceLT,Nat.reduceBEq,ty,SeqfB,hlp,hlq,d1,dr]
   · have d0 : decide ((es.length : Int) = gs.length) = false := decide_eq_false (by omega)
     have dr : decide (es.map Prod.fst = gs.map Prod.fst) = false := decide_eq_false (fun h => hl (by have := congrArg List.length h; simpa using this))
     simp only [go_sem,zaa,Nat.reduceAdd,Nat.reduceSub,Nat.reduceMul,Int.reduceToNat,reduceCtorEq,↓reduceIte,Int.reducePow,Nat.reducePow,Int.reduceMod,Nat.reduceLeDiff,Int.reduceLE,Int.reduceNe,Int.reduceEq,Nat.reduceEqDiff,Nat.reduceLT,Nat.reduceBEq,ty,SeqfB,hlp,hlq,d0,dr]
 · exact hp.elim
def Ssame14 (f : FuncId) : Option zam :=
 match f with
 | 44 => some eqfBS
 | _ => none
theorem Ssame14_ok : Fns Try.prog Ssame14 := by
 intro f s h
 unfold Ssame14 at h
 split at h
 · injection h with h; subst h; exact ⟨⟨_,Try.func44,by kernel_rfl,by kernel_rfl⟩,eqfB_sound⟩
 · cases h
set_option maxHeartbeats 2000000 in
theorem ssame_sound : zaq Try.prog 25 ssameS := by
 refine zak (S := Ssame14) (T := tyF) zat tyF_ok Ssame14_ok Try.func25 (c := Try.f25.body.getD .skip) (by kernel_rfl) (by kernel_rfl) (fun xs pins hp _ => ?_)
 unfold ssameS at hp ⊢
 split at hp
 · rename_i B xs f D ys g _
   obtain ⟨⟨hL,es,rfl,he⟩,hL2,gs,rfl,hg⟩ := hp
   refine ⟨by simp,?_⟩
   have n1 : (es.map bvp).length ≤ 1000000 := hL
   have n2 : (gs.map bvp).length ≤ 1000000 := hL2
   have x1 : ∃ k : List (Bat × Bool),es.map bvp = k.map bvp ∧ ∀ p ∈ k,p.1.rs.length ≤ 1000000 := ⟨es,rfl,he⟩
   have x2 : ∃ k : List (Bat × Bool),gs.map bvp = k.map bvp ∧ ∀ p ∈ k,p.1.rs.length ≤ 1000000 := ⟨gs,rfl,hg⟩
   have hc1 : ∀ h,coe (zau ty) 22 (.sg 6 (es.map bvp) h) = .sg 6 (es.map bvp) h := fun h => by cases es <;> rfl
   have hc2 : ∀ h,coe (zau ty) 22 (.sg 6 (gs.map bvp) h) = .sg 6 (gs.map bvp) h := fun h => by cases gs <;> rfl
   obtain ⟨K,hK⟩ : ∃ K,decide ((es.map bvp).map ubat = (gs.map bvp).map ubat) = K := ⟨_,rfl⟩
   unfold Try.f25
   by_cases h : B = D
   · have d1 : decide (B = D) = true := decide_eq_true h
     simp only [go_sem,zaa,Nat.reduceAdd,Nat.reduceSub,Nat.reduceMul,Int.reduceToNat,reduceCtorEq,↓reduceIte,Int.reducePow,Nat.reducePow,Int.reduceMod,Nat.reduceLeDiff,Int.reduceLE,Int.reduceNe,Int.reduceEq,Nat.reduceEqDiff,Nat.reduceLT,Nat.reduceBEq,tyF,zau,ty,Ssame14,eqfBS,hc1,hc2,n1,n2,x1,x2,hK,d1,Bool.true_and]
   · have d1 : decide (B = D) = false := decide_eq_false h
     simp only [go_sem,zaa,Nat.reduceAdd,Nat.reduceSub,Nat.reduceMul,Int.reduceToNat,reduceCtorEq,↓reduceIte,Int.reducePow,Nat.reducePow,Int.reduceMod,Nat.reduceLeDiff,Int.reduceLE,Int.reduceNe,Int.reduceEq,Nat.reduceEqDiff,Nat.reduceLT,Nat.reduceBEq,tyF,zau,ty,Ssame14,eqfBS,hc1,hc2,n1,n2,x1,x2,hK,d1,Bool.false_and]
 · exact hp.elim
def Sspar (f : FuncId) : Option zam :=
 match f with
 | 28 => some bnewS
 | 34 => some buildI12S
 | _ => none
theorem Sspar_ok : Fns Try.prog Sspar := by
 intro f s h
 unfold Sspar at h
 split at h
 · injection h with h; subst h; exact ⟨⟨_,Try.func28,by kernel_rfl,by kernel_rfl⟩,bnew_sound⟩
 · injection h with h; subst h; exact ⟨⟨_,Try.func34,by kernel_rfl,by kernel_rfl⟩,buildI12_sound⟩
 · cases h
def sparPl : Plan := fun id => match id with
 | 5 => some [(1,4),(2,4)]
 | _ => none
set_option maxHeartbeats 4000000 in
theorem spar_sound : zaq Try.prog 17 sparS := by
 refine fn_soundF (S := Sspar) (T := ty) (pl := sparPl) zat ty_ok Sspar_ok Try.func17 (c := Try.f17.body.getD .skip) (by kernel_rfl) (by kernel_rfl) (fun xs pins hp _ => ?_)
 unfold sparS at hp ⊢
 split at hp
 · rename_i B xs f v _
   obtain ⟨hL,es,rfl,he⟩ := hp
   rw [List.length_map] at hL
   refine ⟨by simp,?_⟩
   have hlp : (es.map bvp).length = es.length := by simp
   rw [zaz]
   obtain ⟨l,hl⟩ : ∃ l,es.map Prod.fst = l := ⟨_,rfl⟩
   rw [hl]
   have hlq : l.length = es.length := by subst hl; simp
   have ht : top = 4294967296 := rfl
   unfold Try.f17
   simp only [go_sem,zag,Nat.reduceAdd,Nat.reduceSub,Nat.reduceMul,Int.reduceToNat,reduceCtorEq,↓reduceIte,Int.reducePow,Nat.reducePow,Int.reduceMod,Nat.reduceLeDiff,Int.reduceLE,Int.reduceNe,Int.reduceEq,Nat.reduceEqDiff,Nat.reduceLT,Nat.reduceBEq,List.map_cons,List.map_nil,List.toList_toArray,Array.toList_append,Option.toArray_some,Option.toArray_none,Bool.and_self,ty,Sspar,sparPl,hlp]
   refine awpF_loopW ⟨fun m σ => ∃ (i : Nat),m = es.length - i ∧ i ≤ es.length ∧
       σ = ⟨[.agg [.w (.int .i64 B),.sg 6 (es.map bvp) f],.w (.int .i64 v),.rf 4 2 0 0,.junk,.rf 5 3 0 0,.ms 6 3 0 i,.junk,.junk,.junk,.sg 6 (es.map bvp) f,.w (.int .i64 es.length),.w (.int .i64 i),.junk,.junk,.junk,.junk,.junk,.junk,.junk,.junk,.junk,.junk,.junk,.junk,.junk,.junk,.junk,.junk,.junk],
         [(4,.g 2 [.agg [.w (.int .i64 B),.sg 6 (es.map bvp) f]]),(5,.g 3 [.agg [.w (.int .i64 0),.w (.int .i64 0),.sg 3 [] true]]),(6,.g 3 ((spL (l.take i)).map ent))],7⟩,?_,?_⟩
   · refine ⟨_,_,(zfg 5 3 (.g 3 []) ⟨by decide,rfl⟩ (by exact trivial)).trans (zab [0,1,2,3,4,12,60] rfl rfl rfl ?_ ?_),0,rfl,by omega,rfl⟩
     · simp only [ssT,zae,zaf,setSlot,gOf,AV.ren,renL,Blk.ren,Ax.look,Ax.put,reduceCtorEq,↓reduceIte,Nat.reduceEqDiff,Nat.reduceLT,Nat.reduceAdd,List.length_append,List.length_cons,List.length_nil,Option.some.injEq]; try simp
     · simp only [ssT,zae,zaf,setSlot,gOf,AV.ren,renL,Blk.ren,Ax.look,Ax.put,reduceCtorEq,↓reduceIte,Nat.reduceEqDiff,Nat.reduceLT,Nat.reduceAdd,List.length_append,List.length_cons,List.length_nil,Option.some.injEq,List.take_zero]; try simp [spL,renL]
   · rintro m σ ⟨i,rfl,hi,rfl⟩
     have e1 : ((i : Int) + 1 + 9223372036854775808) % 18446744073709551616 - 9223372036854775808 = ((i + 1 : Nat) : Int) := by omega
     have hml : ((spL (l.take i)).map ent).length = i := by rw [List.length_map,spL_len,List.length_take]; omega
     by_cases hil : i < es.length
     · have d3 : decide ((i : Int) < es.length) = true := decide_eq_true (by omega)
       have hs1 := zbb es i hil
       have m1 := he es[i] (List.getElem_mem hil)
       have hyi : (spL (l.take (i + 1))).map ent = (spL (l.take i)).map ent ++ [.agg [.w (.int .i64 es[i].1.b),.w (.int .i64 (newL es[i].1.rs)),.w (.int .i64 (i : Int))]] := by
         have h1 : l[i]'(by omega) = es[i].1 := by subst hl; simp
         have h2 : (l.take i).length = i := by rw [List.length_take]; omega
         rw [List.take_succ_eq_append_getElem (by omega),spL_snoc,h1,h2,List.map_append]; rfl
       obtain ⟨P,hP⟩ : ∃ P,es[i] = P := ⟨_,rfl⟩
       rw [hP] at hs1 m1 hyi
       obtain ⟨⟨b,c,p,e,s,rs⟩,f'⟩ := P
       have hs1 : slot (es.map bvp) i = .agg [.w (.int .i64 b),.w (.int .i64 c),.w (.int .i64 p),.w (.int .i64 e),.w (.int .i64 s),.sg 6 (rs.map rv) f'] := hs1
       simp only at m1 hyi
       have n1 : (rs.map rv).length ≤ 9223372036854775807 := by rw [List.length_map]; omega
       have x1 : ∃ k : List Rec,rs.map rv = k.map rv := ⟨rs,rfl⟩
       have r1 := zaj rs
       have hids := ids_rvJ rs
       obtain ⟨W,hW⟩ : ∃ W,newL rs = W := ⟨_,rfl⟩
       rw [hW] at hyi
       have hcl := zbg (spL (l.take i))
       have hids2 := zef (spL (l.take i))
       have hids3 := zef (spL (l.take (i + 1)))
       rw [hyi] at hids3
       simp only [go_sem,zag,Nat.reduceAdd,Nat.reduceSub,Nat.reduceMul,Int.reduceToNat,reduceCtorEq,↓reduceIte,Int.reducePow,Nat.reducePow,Int.reduceMod,Nat.reduceLeDiff,Int.reduceLE,Int.reduceNe,Int.reduceEq,Nat.reduceEqDiff,Nat.reduceLT,Nat.reduceBEq,List.map_cons,List.map_nil,List.toList_toArray,Array.toList_append,Option.toArray_some,Option.toArray_none,Bool.and_self,ty,Sspar,sparPl,bnewS,hlp,hml,d3,hs1,n1,x1,r1,hW,e1,hids,hids2,hids3,hcl,fillS,Int.toNat_natCast]
       repeat (refine And.intro (by omega) ?_)
       refine ⟨es.length - (i + 1),_,by omega,zab [0,1,2,3,4,5,127] rfl rfl rfl ?_ ?_,i + 1,rfl,by omega,rfl⟩
       · simp only [ssT,zae,zaf,setSlot,gOf,AV.ren,renL,Blk.ren,Ax.look,Ax.put,reduceCtorEq,↓reduceIte,Nat.reduceEqDiff,Nat.reduceLT,Nat.reduceAdd,List.length_append,List.length_cons,List.length_nil,Option.some.injEq]
       · simp only [ssT,zae,zaf,setSlot,gOf,AV.ren,renL,Blk.ren,Ax.look,Ax.put,reduceCtorEq,↓reduceIte,Nat.reduceEqDiff,Nat.reduceLT,Nat.reduceAdd,List.length_append,List.length_cons,List.length_nil,Option.some.injEq,hyi]
         rw [← hyi,zcr _ _ (zbg _)]
     · have d3 : decide ((i : Int) < es.length) = false := decide_eq_false (by omega)
       have hii : l.take i = l := List.take_of_length_le (by omega)
       rw [hii] at hml ⊢
       have hx1 : ∃ k : List Ent,(spL l).map ent = k.map ent := ⟨_,rfl⟩
       have hu := zco (spL l)
       have hcl := zbg (spL l)
       have hids2 := zef (spL l)
       have hle1 : i ≤ 100000 := by omega
       have htk : ((spL l).map ent).take i = (spL l).map ent := List.take_of_length_le (by omega)
       have hcm : ∀ y ∈ (spL l).map ent,y.closed = true := by
         intro y hy
         obtain ⟨e,_,rfl⟩ := List.mem_map.1 hy
         rfl
       simp only [go_sem,zag,Nat.reduceAdd,Nat.reduceSub,Nat.reduceMul,Int.reduceToNat,reduceCtorEq,↓reduceIte,Int.reducePow,Nat.reducePow,Int.reduceMod,Nat.reduceLeDiff,Int.reduceLE,Int.reduceNe,Int.reduceEq,Nat.reduceEqDiff,Nat.reduceLT,Nat.reduceBEq,List.map_cons,List.map_nil,List.toList_toArray,Array.toList_append,Option.toArray_some,Option.toArray_none,Bool.and_self,ty,Sspar,sparPl,buildI12S,hlp,hml,d3,hids2,hcl,hx1,hu,hle1,htk,fillS]
       have hdle : decide (0 + i ≤ ((spL l).map ent).length) = true := decide_eq_true (by omega)
       have hL1 : ((spL l).map ent).length ≤ 100000 := by omega
       have hcc : ∀ h,coe ty 40 (.sg 3 ((spL l).map ent) h) = .sg 3 ((spL l).map ent) h := fun h => by cases (spL l) <;> rfl
       obtain ⟨X,hX⟩ : ∃ X,bldI v (spL l) = X := ⟨_,rfl⟩
       obtain ⟨G,hG⟩ : ∃ G,empE X.es = G := ⟨_,rfl⟩
       rw [hX,hG]
       have hiX := zef X.es
       refine ⟨_,zfo 6 3 5 ((spL l).map ent) rfl hcl (by simp [slot,AV.ids]),?_⟩
       simp only [fgL,fgH,AV.fg,Blk.fg,Nat.reduceBEq,cond_true,cond_false,hdle,Bool.and_true,beq_self_eq_true,Bool.true_and,List.drop_zero,htk]
       simp only [go_sem,zag,Nat.reduceAdd,Nat.reduceSub,Nat.reduceMul,Int.reduceToNat,reduceCtorEq,↓reduceIte,Int.reducePow,Nat.reducePow,Int.reduceMod,Nat.reduceLeDiff,Int.reduceLE,Int.reduceNe,Int.reduceEq,Nat.reduceEqDiff,Nat.reduceLT,Nat.reduceBEq,List.map_cons,List.map_nil,List.toList_toArray,Array.toList_append,Option.toArray_some,Option.toArray_none,Bool.and_self,ty,Sspar,sparPl,buildI12S,hcc,hL1,hx1,hu,hX,hG,iav,hiX,fillS]
       refine ⟨_,Weak.refl _,?_⟩
       simp only [go_sem,zag,Nat.reduceAdd,Nat.reduceSub,Nat.reduceMul,Int.reduceToNat,reduceCtorEq,↓reduceIte,Int.reducePow,Nat.reducePow,Int.reduceMod,Nat.reduceLeDiff,Int.reduceLE,Int.reduceNe,Int.reduceEq,Nat.reduceEqDiff,Nat.reduceLT,Nat.reduceBEq,List.map_cons,List.map_nil,List.toList_toArray,Array.toList_append,Option.toArray_some,Option.toArray_none,Bool.and_self,ty,hiX,fillS]
 · exact hp.elim
end
end Go.Proofs.Ytlcijldkdpmknaa
namespace Go.Proofs.Ytlcijldkdpmknaa
namespace Ax
theorem zcx {S : zal} {T : zac} {ops : List Oper} {pl : List (Nat × Nat)} {Q Q' : List AV → Heap → Prop} (hq : ∀ sl H,Q sl H → Q' sl H) : ∀ (l : List Oper) (nm : Nat) (acc : List (Nat × List Nat)) (sl : List AV) (H : Heap),zdw S T ops pl nm acc l sl H Q → zdw S T ops pl nm acc l sl H Q'
 | [],nm,acc,sl,H,h => ⟨h.1,hq sl H h.2⟩
 | o :: r,nm,acc,sl,H,h => by
   unfold zdw at h ⊢
   cases hg : o.guard with
   | none => simp only [hg] at h ⊢; exact ⟨h.1,zcx hq r _ _ _ _ h.2⟩
   | some g =>
     obtain ⟨j,want⟩ := g
     simp only [hg] at h ⊢
     cases hs : guardSlot ops j with
     | none => simp [hs] at h
     | some d =>
       simp only [hs] at h ⊢
       split at h
       · exact ⟨fun e => ⟨(h.1 e).1,zcx hq r _ _ _ _ (h.1 e).2⟩,fun e => zcx hq r _ _ _ _ (h.2 e)⟩
       · exact zcx hq r _ _ _ _ h
       · exact h.elim
theorem aopsO_mono {S SO : zal} {T : zac} {ops : List Oper} {Q Q' : List AV → Heap → Prop} (hq : ∀ sl H,Q sl H → Q' sl H) : ∀ (k nm : Nat) (l : List Oper) (sl : List AV) (H : Heap),aopsO S SO T ops k nm l sl H Q → aopsO S SO T ops k nm l sl H Q'
 | k,nm,[],sl,H,h => by unfold aopsO at h ⊢; exact hq _ _ h
 | 0,nm,o :: r,sl,H,h => by unfold aopsO at h ⊢; exact ⟨h.1,h.2.1,zcm hq _ _ _ _ h.2.2⟩
 | k + 1,nm,o :: r,sl,H,h => by unfold aopsO at h ⊢; exact ⟨h.1,h.2.1,aopsO_mono hq k _ r _ _ h.2.2⟩
theorem specOp_mono {T : zac} {sl : List AV} {op : Op} {K K' : AV → Prop} (hk : ∀ x,K x → K' x) (h : specOp T sl op K) : specOp T sl op K' := by
 unfold specOp at h ⊢
 repeat' split at h
 all_goals first
   | exact h.elim
   | simp_all
theorem specOpH_mono {T : zac} {sl : List AV} {op : Op} {H : Heap} {K K' : AV → Heap → Prop} (hk : ∀ x H,K x H → K' x H) (h : specOpH T sl op H K) : specOpH T sl op H K' := by
 unfold specOpH at h ⊢
 split at h
 · unfold specNext at h ⊢
   split at h
   · split at h
     · exact ⟨h.1,fun e => hk _ _ (h.2.1 e),fun j hj => hk _ _ (h.2.2 j hj)⟩
     · exact h.elim
   · exact h.elim
 · exact specOp_mono (fun x hx => hk x H hx) h
theorem aopsT_mono {S : zal} {T : zac} {ops : List Oper} {Q Q' : List AV → Heap → Prop} (hq : ∀ sl H,Q sl H → Q' sl H) : ∀ (k : List Bool) (nm : Nat) (l : List Oper) (sl : List AV) (H : Heap),aopsT S T ops k nm l sl H Q → aopsT S T ops k nm l sl H Q'
 | k,nm,[],sl,H,h => by unfold aopsT at h ⊢; exact hq _ _ h
 | [],nm,o :: r,sl,H,h => by unfold aopsT at h ⊢; exact zcm hq _ _ _ _ h
 | true :: k,nm,o :: r,sl,H,h => by unfold aopsT at h ⊢; exact ⟨h.1,specOpH_mono (fun x H hx => aopsT_mono hq k _ r _ _ hx) h.2⟩
 | false :: k,nm,o :: r,sl,H,h => by unfold aopsT at h ⊢; exact ⟨h.1,h.2.1,aopsT_mono hq k _ r _ _ h.2.2⟩
theorem frzK_mono {l : List Nat} {sl : List AV} {H : Heap} {K K' : List AV → Heap → Prop} (hk : ∀ sl H,K sl H → K' sl H) (h : frzK l sl H K) : frzK l sl H K' := ⟨h.1,hk _ _ h.2⟩
theorem awpO_mono {S SO : zal} {T : zac} {pl : XPlan} : ∀ (c : Code) (Q Q' : Exit → ASt → Prop) (σ : ASt),(∀ e σ,Q e σ → Q' e σ) → awpO S SO T pl c Q σ → awpO S SO T pl c Q' σ := by
 intro c
 induction c with
 | skip => intro Q Q' σ hq h; exact hq _ _ h
 | label l => intro Q Q' σ hq h; exact hq _ _ h
 | region id ops draw =>
   intro Q Q' σ hq h
   simp only [awpO] at h ⊢
   split at h
   · exact zcm (fun _ _ h => hq _ _ h) _ _ _ _ h
   · exact zcx (fun _ _ h => hq _ _ h) _ _ _ _ _ h
   · exact frzK_mono (fun _ _ h => zcm (fun _ _ h => hq _ _ h) _ _ _ _ h) h
   · exact frzK_mono (fun _ _ h => aopsO_mono (fun _ _ h => hq _ _ h) _ _ _ _ _ h) h
   · exact aopsT_mono (fun _ _ h => hq _ _ h) _ _ _ _ _ h
   · obtain ⟨sl',H',hw,h⟩ := h
     exact ⟨sl',H',hw,zcx (fun _ _ h => hq _ _ h) _ _ _ _ _ h⟩
   · obtain ⟨sl',H',hw,h⟩ := h
     exact ⟨sl',H',hw,zcx (fun _ _ h => aopsO_mono (fun _ _ h => hq _ _ h) _ _ _ _ _ h) _ _ _ _ _ h⟩
   · obtain ⟨sl',H',hw,h⟩ := h
     exact ⟨sl',H',hw,zcx (fun _ _ h => ⟨aopsO_mono (fun _ _ h => hq _ _ h) _ _ _ _ _ h.1,aopsO_mono (fun _ _ h => hq _ _ h) _ _ _ _ _ h.2⟩) _ _ _ _ _ h⟩
   · obtain ⟨sl',H',hw,h⟩ := h
     exact ⟨sl',H',hw,zcm (fun _ _ h => hq _ _ h) _ _ _ _ h⟩
 | seq a b iha ihb =>
   intro Q Q' σ hq h
   refine iha _ _ σ ?_ h
   intro e σ h
   cases e with
   | normal => exact ihb _ _ σ hq h
   | _ => exact hq _ _ h
 | cond c a b iha ihb =>
   intro Q Q' σ hq h
   simp only [awpO] at h ⊢
   split at h
   · exact ⟨fun e => iha _ _ σ hq (h.1 e),fun e => ihb _ _ σ hq (h.2 e)⟩
   · exact h.elim
 | block id c ih =>
   intro Q Q' σ hq h
   refine ih _ _ σ ?_ h
   intro e σ h
   cases e with
   | exit id' =>
     simp only [zfm] at h ⊢
     split at h
     · rename_i he; rw [if_pos he]; exact hq _ _ h
     · rename_i he; rw [if_neg he]; exact hq _ _ h
   | _ => exact hq _ _ h
 | loop c ih =>
   intro Q Q' σ hq h
   obtain ⟨I,hst,hr⟩ := h
   refine ⟨I,hst,fun n σ' hI => ih _ _ σ' ?_ (hr n σ' hI)⟩
   intro e σ h
   cases e with
   | normal => exact h
   | _ =>
     obtain ⟨σ2,hw,h⟩ := h
     exact ⟨σ2,hw,hq _ _ h⟩
 | exit id => intro Q Q' σ hq h; exact hq _ _ h
 | ret => intro Q Q' σ hq h; exact hq _ _ h
 | _ => intro Q Q' σ hq h; exact h.elim
def unK (A : ASt → Prop) (Q : Exit → ASt → Prop) (e : Exit) (σ : ASt) : Prop := match e with
 | .normal => A σ
 | e => Q e σ
def unr (f : (Exit → ASt → Prop) → ASt → Prop) (Q : Exit → ASt → Prop) : Nat → ASt → Prop
 | 0,_ => False
 | n + 1,σ => f (unK (unr f Q n) Q) σ
theorem aloop_unr {f : (Exit → ASt → Prop) → ASt → Prop} {Q : Exit → ASt → Prop} (mono : ∀ (Q Q' : Exit → ASt → Prop) (σ : ASt),(∀ e σ,Q e σ → Q' e σ) → f Q σ → f Q' σ) (n : Nat) (σ : ASt) (h : unr f Q n σ) : ALoop f Q σ := by
 refine ⟨fun k τ => unr f Q k τ,⟨n,σ,Weak.refl _,h⟩,?_⟩
 intro k τ hI
 cases k with
 | zero => exact hI.elim
 | succ k =>
   refine mono _ _ τ ?_ hI
   intro e σ1 h1
   cases e with
   | normal => exact ⟨k,σ1,Nat.lt_succ_self k,Weak.refl _,h1⟩
   | _ => exact ⟨σ1,Weak.refl _,h1⟩
theorem awp_unr {S : zal} {T : zac} {c : Code} {Q : Exit → ASt → Prop} {σ : ASt} (n : Nat) (h : unr (awp S T c) Q n σ) : awp S T (.loop c) Q σ :=
 awp_loopW (aloop_unr (fun Q Q' σ hq h => rawp_mono _ Q Q' σ hq h) n σ h)
theorem awpO_unr {S SO : zal} {T : zac} {pl : XPlan} {c : Code} {Q : Exit → ASt → Prop} {σ : ASt} (n : Nat) (h : unr (awpO S SO T pl c) Q n σ) : awpO S SO T pl (.loop c) Q σ :=
 awpO_loopW (aloop_unr (fun Q Q' σ hq h => awpO_mono _ Q Q' σ hq h) n σ h)
theorem unr_go {S : zal} {T : zac} {c : Code} {Q : Exit → ASt → Prop} {σ : ASt} {n : Nat} : unr (awp S T c) Q (n + 1) σ = awp S T c (unK (unr (awp S T c) Q n) Q) σ := rfl
theorem unrO_go {S SO : zal} {T : zac} {pl : XPlan} {c : Code} {Q : Exit → ASt → Prop} {σ : ASt} {n : Nat} : unr (awpO S SO T pl c) Q (n + 1) σ = awpO S SO T pl c (unK (unr (awpO S SO T pl c) Q n) Q) σ := rfl
theorem zej {A : ASt → Prop} {Q : Exit → ASt → Prop} {σ : ASt} : unK A Q .normal σ = A σ := rfl
theorem unK_exit {A : ASt → Prop} {Q : Exit → ASt → Prop} {σ : ASt} {id : Nat} : unK A Q (.exit id) σ = Q (.exit id) σ := rfl
theorem unK_ret {A : ASt → Prop} {Q : Exit → ASt → Prop} {σ : ASt} : unK A Q .ret σ = Q .ret σ := rfl
end Ax
end Go.Proofs.Ytlcijldkdpmknaa
namespace Go.Proofs.Ytlcijldkdpmknaa
open Ax
def len64S : zam
 | [.w (.int .u64 n)],[] => ⟨n = 1,.w (.int .i64 1),[]⟩
 | _,_ => zay
def lenS : zam
 | [.w (.int .u64 n)],[] => ⟨n = 1,.w (.int .i64 1),[]⟩
 | _,_ => zay
def ins1S : zam
 | [.sg 1 [.str k] f,.w (.int .i64 a),.w (.int .i64 b)],[] => ⟨a = 0 ∧ b = 1,.tup [],[]⟩
 | _,_ => zay
def pdq1S : zam
 | [.sg 1 [.str k] f,.w (.int .i64 a),.w (.int .i64 b),.w (.int .i64 c)],[] => ⟨a = 0 ∧ b = 1,.tup [],[]⟩
 | _,_ => zay
def sort1S : zam
 | [.sg 1 [.str k] f],[] => ⟨True,.tup [],[]⟩
 | _,_ => zay
section
set_option maxRecDepth 100000
def ins1Pl : XPlan := fun id => match id with
 | 4 => .prs []
 | 6 => .prs []
 | _ => .std
set_option maxHeartbeats 2000000 in
theorem ins1_sound : zaq Try.prog 62 ins1S := by
 refine fn_soundOK (S := noS) (SO := noO) (T := ty) zat ty_ok zbo noO_ok Try.func62 (c := Try.f62.body.getD .skip) (by kernel_rfl) (fun xs pins hp _ => ?_)
 unfold ins1S at hp ⊢
 split at hp
 · rename_i k f a b _
   obtain ⟨rfl,rfl⟩ := hp
   refine ⟨by simp,ins1Pl,by kernel_rfl,?_⟩
   have c1 : ((0 : Int) + 1 + 9223372036854775808) % 18446744073709551616 - 9223372036854775808 = 1 := by decide
   have d1 : decide ((1 : Int) < 1) = false := rfl
   unfold Try.f62
   simp only [go_sem,zad,Nat.reduceAdd,Nat.reduceSub,Nat.reduceMul,Int.reduceToNat,reduceCtorEq,↓reduceIte,Int.reducePow,Nat.reducePow,Int.reduceMod,Nat.reduceLeDiff,Int.reduceLE,Int.reduceNe,Int.reduceEq,Nat.reduceEqDiff,Nat.reduceLT,Nat.reduceBEq,List.map_cons,List.map_nil,List.toList_toArray,Array.toList_append,Option.toArray_some,Option.toArray_none,Bool.and_self,ty,noS,ins1Pl,c1]
   refine awpO_unr 1 ?_
   simp only [go_sem,zad,Nat.reduceAdd,Nat.reduceSub,Nat.reduceMul,Int.reduceToNat,reduceCtorEq,↓reduceIte,Int.reducePow,Nat.reducePow,Int.reduceMod,Nat.reduceLeDiff,Int.reduceLE,Int.reduceNe,Int.reduceEq,Nat.reduceEqDiff,Nat.reduceLT,Nat.reduceBEq,List.map_cons,List.map_nil,List.toList_toArray,Array.toList_append,Option.toArray_some,Option.toArray_none,Bool.and_self,ty,noS,ins1Pl,c1,d1,unrO_go,zej,unK_exit,unK_ret]
   try (refine ⟨_,Weak.refl _,?_⟩)
   try simp only [go_sem,zad,Nat.reduceAdd,Nat.reduceSub,Nat.reduceMul,Int.reduceToNat,reduceCtorEq,↓reduceIte,Int.reducePow,Nat.reducePow,Int.reduceMod,Nat.reduceLeDiff,Int.reduceLE,Int.reduceNe,Int.reduceEq,Nat.reduceEqDiff,Nat.reduceLT,Nat.reduceBEq,List.map_cons,List.map_nil,List.toList_toArray,Array.toList_append,Option.toArray_some,Option.toArray_none,Bool.and_self,ty,noS]
 · exact hp.elim
def pdq1Pl : XPlan := fun id => match id with
 | 17 => .prs []
 | _ => .std
def Spdq1 (f : FuncId) : Option zam :=
 match f with
 | 62 => some ins1S
 | _ => none
theorem Spdq1_ok : Fns Try.prog Spdq1 := by
 intro f s h
 unfold Spdq1 at h
 split at h
 · injection h with h; subst h; exact ⟨⟨_,Try.func62,by kernel_rfl,by kernel_rfl⟩,ins1_sound⟩
 · cases h
set_option maxHeartbeats 2000000 in
theorem pdq1_sound : zaq Try.prog 46 pdq1S := by
 refine fn_soundOK (S := Spdq1) (SO := noO) (T := ty) zat ty_ok Spdq1_ok noO_ok Try.func46 (c := Try.f46.body.getD .skip) (by kernel_rfl) (fun xs pins hp _ => ?_)
 unfold pdq1S at hp ⊢
 split at hp
 · rename_i k f a b c _
   obtain ⟨rfl,rfl⟩ := hp
   refine ⟨by simp,pdq1Pl,by kernel_rfl,?_⟩
   have c1 : ((1 : Int) - 0 + 9223372036854775808) % 18446744073709551616 - 9223372036854775808 = 1 := by decide
   have d1 : decide ((1 : Int) ≤ 12) = true := rfl
   unfold Try.f46
   simp only [go_sem,zad,Nat.reduceAdd,Nat.reduceSub,Nat.reduceMul,Int.reduceToNat,reduceCtorEq,↓reduceIte,Int.reducePow,Nat.reducePow,Int.reduceMod,Nat.reduceLeDiff,Int.reduceLE,Int.reduceNe,Int.reduceEq,Nat.reduceEqDiff,Nat.reduceLT,Nat.reduceBEq,List.map_cons,List.map_nil,List.toList_toArray,Array.toList_append,Option.toArray_some,Option.toArray_none,Bool.and_self,ty,Spdq1,pdq1Pl,c1]
   refine awpO_unr 1 ?_
   simp only [go_sem,zad,Nat.reduceAdd,Nat.reduceSub,Nat.reduceMul,Int.reduceToNat,reduceCtorEq,↓reduceIte,Int.reducePow,Nat.reducePow,Int.reduceMod,Nat.reduceLeDiff,Int.reduceLE,Int.reduceNe,Int.reduceEq,Nat.reduceEqDiff,Nat.reduceLT,Nat.reduceBEq,List.map_cons,List.map_nil,List.toList_toArray,Array.toList_append,Option.toArray_some,Option.toArray_none,Bool.and_self,ty,Spdq1,ins1S,pdq1Pl,c1,d1,unrO_go,zej,unK_exit,unK_ret]
   try (refine ⟨_,Weak.refl _,?_⟩)
   try simp only [go_sem,zad,Nat.reduceAdd,Nat.reduceSub,Nat.reduceMul,Int.reduceToNat,reduceCtorEq,↓reduceIte,Int.reducePow,Nat.reducePow,Int.reduceMod,Nat.reduceLeDiff,Int.reduceLE,Int.reduceNe,Int.reduceEq,Nat.reduceEqDiff,Nat.reduceLT,Nat.reduceBEq,List.map_cons,List.map_nil,List.toList_toArray,Array.toList_append,Option.toArray_some,Option.toArray_none,Bool.and_self,ty,noS]
 · exact hp.elim
set_option maxHeartbeats 2000000 in
theorem len64_sound : zaq Try.prog 72 len64S := by
 refine zak (S := noS) (T := ty) zat ty_ok zbo Try.func72 (c := Try.f72.body.getD .skip) (by kernel_rfl) (by kernel_rfl) (fun xs pins hp _ => ?_)
 unfold len64S at hp ⊢
 split at hp
 · rename_i n _
   obtain rfl := hp
   refine ⟨by simp,?_⟩
   unfold Try.f72
   have d1 : decide ((4294967296 : Int) ≤ 1) = false := rfl
   have d2 : decide ((65536 : Int) ≤ 1) = false := rfl
   have d3 : decide ((256 : Int) ≤ 1) = false := rfl
   have w1 : ((1 : Int) % 256) = 1 := rfl
   simp only [go_sem,zaa,Nat.reduceAdd,Nat.reduceSub,Nat.reduceMul,Int.reduceToNat,reduceCtorEq,↓reduceIte,Int.reducePow,Nat.reducePow,Int.reduceMod,Nat.reduceLeDiff,Int.reduceLE,Int.reduceNe,Int.reduceEq,Nat.reduceEqDiff,Nat.reduceLT,Nat.reduceBEq,ty,noS,d1,d2,d3,w1]
   decide
 · exact hp.elim
def Slen1 (f : FuncId) : Option zam :=
 match f with
 | 72 => some len64S
 | _ => none
theorem Slen1_ok : Fns Try.prog Slen1 := by
 intro f s h
 unfold Slen1 at h
 split at h
 · injection h with h; subst h; exact ⟨⟨_,Try.func72,by kernel_rfl,by kernel_rfl⟩,len64_sound⟩
 · cases h
theorem len_sound1 : zaq Try.prog 47 lenS := by
 refine zak (S := Slen1) (T := ty) zat ty_ok Slen1_ok Try.func47 (c := Try.f47.body.getD .skip) (by kernel_rfl) (by kernel_rfl) (fun xs pins hp _ => ?_)
 unfold lenS at hp ⊢
 split at hp
 · rename_i n _
   obtain rfl := hp
   refine ⟨by simp,?_⟩
   unfold Try.f47
   simp only [go_sem,zaa,Nat.reduceAdd,Nat.reduceSub,Nat.reduceMul,Int.reduceToNat,reduceCtorEq,↓reduceIte,Int.reducePow,Nat.reducePow,Int.reduceMod,Nat.reduceLeDiff,Int.reduceLE,Int.reduceNe,Int.reduceEq,Nat.reduceEqDiff,Nat.reduceLT,Nat.reduceBEq,ty,Slen1,len64S]
   try decide
 · exact hp.elim
def Ssort1 (f : FuncId) : Option zam :=
 match f with
 | 47 => some lenS
 | 46 => some pdq1S
 | _ => none
theorem Ssort1_ok : Fns Try.prog Ssort1 := by
 intro f s h
 unfold Ssort1 at h
 split at h
 · injection h with h; subst h; exact ⟨⟨_,Try.func47,by kernel_rfl,by kernel_rfl⟩,len_sound1⟩
 · injection h with h; subst h; exact ⟨⟨_,Try.func46,by kernel_rfl,by kernel_rfl⟩,pdq1_sound⟩
 · cases h
theorem sort1_sound : zaq Try.prog 27 sort1S := by
 refine zak (S := Ssort1) (T := ty) zat ty_ok Ssort1_ok Try.func27 (c := Try.f27.body.getD .skip) (by kernel_rfl) (by kernel_rfl) (fun xs pins hp _ => ?_)
 unfold sort1S at hp ⊢
 split at hp
 · rename_i k f _
   refine ⟨by simp,?_⟩
   have w1 : ((1 : Int) % 18446744073709551616) = 1 := rfl
   unfold Try.f27
   simp only [go_sem,zaa,Nat.reduceAdd,Nat.reduceSub,Nat.reduceMul,Int.reduceToNat,reduceCtorEq,↓reduceIte,Int.reducePow,Nat.reducePow,Int.reduceMod,Nat.reduceLeDiff,Int.reduceLE,Int.reduceNe,Int.reduceEq,Nat.reduceEqDiff,Nat.reduceLT,Nat.reduceBEq,ty,Ssort1,lenS,pdq1S,w1]
   try decide
 · exact hp.elim
def X1J : Bat := ⟨5,2,0,0,0,[⟨0,3,true,[107],false,[]⟩]⟩
def X2J : Bat := ⟨9,1,0,0,0,[]⟩
def kL1 : List Bat := [X1J]
def kL2 : List Bat := [X1J,X2J]
def skey1S : zam
 | [.agg [.w (.int .i64 B),.sg 6 xs f]],[] => ⟨xs = bfr kL2,.ms 0 1 0 1,[.g 1 [.str [107]]]⟩
 | _,_ => zay
def Skey1 (f : FuncId) : Option zam :=
 match f with
 | 27 => some sort1S
 | _ => none
theorem Skey1_ok : Fns Try.prog Skey1 := by
 intro f s h
 unfold Skey1 at h
 split at h
 · injection h with h; subst h; exact ⟨⟨_,Try.func27,by kernel_rfl,by kernel_rfl⟩,sort1_sound⟩
 · cases h
set_option maxHeartbeats 8000000 in
theorem skey1_sound : zaq Try.prog 9 skey1S := by
 refine zak (S := Skey1) (T := ty) zat ty_ok Skey1_ok Try.func9 (c := Try.f9.body.getD .skip) (by kernel_rfl) (by kernel_rfl) (fun xs pins hp _ => ?_)
 unfold skey1S at hp ⊢
 split at hp
 · rename_i B xs f _
   obtain rfl : xs = bfr kL2 := hp
   refine ⟨by simp,?_⟩
   have hk : bfr kL2 = [.agg [.w (.int .i64 5),.w (.int .i64 2),.w (.int .i64 0),.w (.int .i64 0),.w (.int .i64 0),.sg 6 [.agg [.w (.int .i64 0),.w (.int .i64 3),.w (.bool true),.str [107],.w (.bool false),.str []]] false],.agg [.w (.int .i64 9),.w (.int .i64 1),.w (.int .i64 0),.w (.int .i64 0),.w (.int .i64 0),.sg 6 [] false]] := rfl
   rw [hk]
   clear hk
   unfold Try.f9
   have q1 : decide ((0 : Int) < ((2 : Nat) : Int)) = true := rfl
   have q2 : decide ((1 : Int) < ((2 : Nat) : Int)) = true := rfl
   have q3 : decide ((2 : Int) < ((2 : Nat) : Int)) = false := rfl
   have q4 : decide ((0 : Int) < ((1 : Nat) : Int)) = true := rfl
   have q5 : decide ((1 : Int) < ((1 : Nat) : Int)) = false := rfl
   have q6 : decide ((0 : Int) < ((0 : Nat) : Int)) = false := rfl
   have t0 : (0 : Int).toNat = 0 := rfl
   have t1 : (1 : Int).toNat = 1 := rfl
   have dk : decide (([107] : List UInt8) = [107]) = true := rfl
   simp only [go_sem,zaa,Nat.reduceAdd,Nat.reduceSub,Nat.reduceMul,Int.reduceToNat,reduceCtorEq,↓reduceIte,Int.reducePow,Nat.reducePow,Int.reduceMod,Nat.reduceLeDiff,Int.reduceLE,Int.reduceNe,Int.reduceEq,Nat.reduceEqDiff,Nat.reduceLT,Nat.reduceBEq,ty,Skey1]
   refine awp_unr 3 ?_
   simp only [go_sem,zaa,Nat.reduceAdd,Nat.reduceSub,Nat.reduceMul,Int.reduceToNat,reduceCtorEq,↓reduceIte,Int.reducePow,Nat.reducePow,Int.reduceMod,Nat.reduceLeDiff,Int.reduceLE,Int.reduceNe,Int.reduceEq,Nat.reduceEqDiff,Nat.reduceLT,Nat.reduceBEq,ty,Skey1,unr_go,zej,unK_exit,unK_ret,q1,q2,q3,q4,q5,q6,t0,t1,slot,Int.reduceAdd,Int.reduceSub]
   repeat (refine And.intro (by first | decide | omega) ?_)
   refine awp_unr 2 ?_
   simp only [go_sem,zaa,Nat.reduceAdd,Nat.reduceSub,Nat.reduceMul,Int.reduceToNat,reduceCtorEq,↓reduceIte,Int.reducePow,Nat.reducePow,Int.reduceMod,Nat.reduceLeDiff,Int.reduceLE,Int.reduceNe,Int.reduceEq,Nat.reduceEqDiff,Nat.reduceLT,Nat.reduceBEq,ty,Skey1,unr_go,zej,unK_exit,unK_ret,q1,q2,q3,q4,q5,q6,t0,t1,dk,slot,Int.reduceAdd,Int.reduceSub,eqV,asv,List.nil_append]
   repeat (refine And.intro (by first | decide | omega) ?_)
   refine awp_unr 1 ?_
   simp only [go_sem,zaa,Nat.reduceAdd,Nat.reduceSub,Nat.reduceMul,Int.reduceToNat,reduceCtorEq,↓reduceIte,Int.reducePow,Nat.reducePow,Int.reduceMod,Nat.reduceLeDiff,Int.reduceLE,Int.reduceNe,Int.reduceEq,Nat.reduceEqDiff,Nat.reduceLT,Nat.reduceBEq,ty,Skey1,unr_go,zej,unK_exit,unK_ret,q1,q2,q3,q4,q5,q6,t0,t1,dk,slot,Int.reduceAdd,Int.reduceSub,eqV,asv,List.nil_append]
   refine awp_unr 2 ?_
   simp only [go_sem,zaa,Nat.reduceAdd,Nat.reduceSub,Nat.reduceMul,Int.reduceToNat,reduceCtorEq,↓reduceIte,Int.reducePow,Nat.reducePow,Int.reduceMod,Nat.reduceLeDiff,Int.reduceLE,Int.reduceNe,Int.reduceEq,Nat.reduceEqDiff,Nat.reduceLT,Nat.reduceBEq,ty,Skey1,sort1S,unr_go,zej,unK_exit,unK_ret,q1,q2,q3,q4,q5,q6,t0,t1,slot,Int.reduceAdd,Int.reduceSub]
   exact ⟨by unfold top; decide,fun y hy => by rw [hy]; rfl⟩
 · exact hp.elim
end
end Go.Proofs.Ytlcijldkdpmknaa
namespace Go.Proofs.Ytlcijldkdpmknaa
open Ax
theorem puJ (n : Nat) (h : n < 128) : putU n = [UInt8.ofNat n] := by rw [putU]; rw [if_pos h]
def R1J : Rec := ⟨0,3,true,[107],false,[]⟩
theorem xJ1 : rk R1J = 0 := by decide
theorem xJ2 : rb R1J = [1,0,6,2,107,0] := by
 rw [rb_eq xJ1]
 show UInt8.ofNat (flagI true false).toNat :: (putU (zz 0).toNat ++ (putU (zz 3).toNat ++ (textL [107] ++ textL []))) = _
 unfold textL
 rw [puJ (zz 0).toNat (by decide),puJ (zz 3).toNat (by decide),puJ (2 * [107].length) (by decide),puJ (2 * ([] : List UInt8).length) (by decide)]
 rfl
theorem xJ3 : batL 5 2 0 0 0 [R1J] = [10,4,0,0,0,2,1,0,6,2,107,0] := by
 unfold batL zcs nums
 simp only [List.flatMap_cons,List.flatMap_nil,xJ2,List.append_nil]
 rw [puJ (zz 5).toNat (by decide),puJ (zz 2).toNat (by decide),puJ (zz 0).toNat (by decide),puJ (zz (([R1J].length : Nat) : Int)).toNat (by decide)]
 rfl
theorem xJ4 : bE X1J = 0 := by
 unfold bE batE X1J
 simp only
 rw [show (⟨0,3,true,[107],false,[]⟩ : Rec) = R1J from rfl,xJ3,layE_cons,xJ1]
 decide
theorem xJ5 : bB X1J = [10,4,0,0,0,2,1,0,6,2,107,0] := by
 rw [show bB X1J = batL 5 2 0 0 0 [R1J] from if_pos xJ4,xJ3]
theorem yJ3 : batL 9 1 0 0 0 [] = [18,2,0,0,0,0] := by
 unfold batL zcs nums
 simp only [List.flatMap_cons,List.flatMap_nil,List.append_nil]
 rw [puJ (zz 9).toNat (by decide),puJ (zz 1).toNat (by decide),puJ (zz 0).toNat (by decide),puJ (zz ((([] : List Rec).length : Nat) : Int)).toNat (by decide)]
 rfl
theorem yJ4 : bE X2J = 0 := by
 unfold bE batE X2J
 simp only
 rw [yJ3]
 decide
theorem yJ5 : bB X2J = [18,2,0,0,0,0] := by
 rw [show bB X2J = batL 9 1 0 0 0 [] from if_pos yJ4,yJ3]
theorem zJ4 : bE ⟨0,0,0,0,0,[]⟩ ≠ 0 := by decide
theorem fJ1 : zds 0 [] X1J = 0 := by unfold zds; rw [if_pos xJ4]; decide
theorem fJ2 : zds 0 kL1 X2J = 0 := by unfold zds; rw [if_pos yJ4]; decide
theorem fJ3 : zds 0 kL2 X2J = 16 := by unfold zds; rw [if_pos yJ4]; decide
theorem gJ1 : zec 0 [] X1J = .agg [.w (.int .i64 0),.sg 6 (bfr kL1) false] := by unfold zec; rw [if_pos fJ1]; rfl
theorem gJ2 : zec 0 kL1 X2J = .agg [.w (.int .i64 0),.sg 6 (bfr kL2) false] := by unfold zec; rw [if_pos fJ2]; rfl
theorem gJ3 : zec 0 kL2 X2J = .agg [.w (.int .i64 0),.sg 6 [] true] := by unfold zec; rw [fJ3]; rfl
theorem hJ1 : zcl 7 1 kL2 = [X2J] := by decide
theorem hJ2 : btG 3 kL2 = (5,true) := by decide
theorem hJ3 : nwG kL2 = 3 := by decide
theorem hJ4 : ndB X1J = 1 := by unfold ndB; rw [if_pos xJ4,xJ5]; decide
theorem hJ5 : ndB X2J = 1 := by unfold ndB; rw [if_pos yJ4,yJ5]; decide
theorem hJ6 : ndI kL2 0 = 2 := by
 show (0 + ndB X1J) + ndB X2J = 2
 rw [hJ4,hJ5]; rfl
theorem hJ7 : ndB ⟨0,0,0,0,0,[]⟩ = 0 := if_neg zJ4
theorem hJ8 : chkG 0 kL2 = 0 := by
 show (if (0 : Int) < 0 ∨ 4611686018427387903 < (0 : Int) then (11 : Int) else if bE X1J = 0 then (if X1J.b < 0 then 16 else if bE X2J = 0 then (if X2J.b < nxB X1J then 16 else 0) else bE X2J) else bE X1J) = 0
 rw [xJ4,yJ4]; decide
theorem hJ9 : bldI 2 (spL kL2) = ⟨2,2,[⟨5,3,0⟩]⟩ := by rfl
theorem hJa : lastN 0 kL2 = 10 := by decide
theorem isBs_bfr {l : List Bat} (h : ∀ x ∈ l,x.rs.length ≤ 1000000) : isBl (bfr l) := ⟨l.map offB,rfl,fun p hp => by
 obtain ⟨x,hx,rfl⟩ := List.mem_map.1 hp
 exact h x hx⟩
theorem iJ1 : isBl (bfr kL1) := isBs_bfr (by decide)
theorem iJ2 : isBl (bfr kL2) := isBs_bfr (by decide)
theorem iJ0 : isBl [] := ⟨[],rfl,by intro p hp; simp at hp⟩
end Go.Proofs.Ytlcijldkdpmknaa
namespace Go.Proofs.Ytlcijldkdpmknaa
open Ax
def Saw14 (f : FuncId) : Option zam :=
 match f with
 | 22 => some sputS
 | 23 => some sfetS
 | 7 => some sbtS
 | 9 => some skey1S
 | 24 => some zer
 | 11 => some snewS
 | 13 => some sbkS
 | 15 => some sndS
 | 17 => some sparS
 | 25 => some ssameS
 | 26 => some schkS
 | _ => none
theorem Saw14_ok : Fns Try.prog Saw14 := by
 intro f s h
 unfold Saw14 at h
 split at h
 · injection h with h; subst h; exact ⟨⟨_,Try.func22,by kernel_rfl,by kernel_rfl⟩,sput_sound⟩
 · injection h with h; subst h; exact ⟨⟨_,Try.func23,by kernel_rfl,by kernel_rfl⟩,sfet_sound⟩
 · injection h with h; subst h; exact ⟨⟨_,Try.func7,by kernel_rfl,by kernel_rfl⟩,sbt_sound⟩
 · injection h with h; subst h; exact ⟨⟨_,Try.func9,by kernel_rfl,by kernel_rfl⟩,skey1_sound⟩
 · injection h with h; subst h; exact ⟨⟨_,Try.func24,by kernel_rfl,by kernel_rfl⟩,snext_sound⟩
 · injection h with h; subst h; exact ⟨⟨_,Try.func11,by kernel_rfl,by kernel_rfl⟩,snew_sound⟩
 · injection h with h; subst h; exact ⟨⟨_,Try.func13,by kernel_rfl,by kernel_rfl⟩,sbk_sound⟩
 · injection h with h; subst h; exact ⟨⟨_,Try.func15,by kernel_rfl,by kernel_rfl⟩,snd_sound⟩
 · injection h with h; subst h; exact ⟨⟨_,Try.func17,by kernel_rfl,by kernel_rfl⟩,spar_sound⟩
 · injection h with h; subst h; exact ⟨⟨_,Try.func25,by kernel_rfl,by kernel_rfl⟩,ssame_sound⟩
 · injection h with h; subst h; exact ⟨⟨_,Try.func26,by kernel_rfl,by kernel_rfl⟩,schk_sound⟩
 · cases h
section
set_option maxRecDepth 100000
set_option maxHeartbeats 8000000 in
theorem awake14_sound : zaq Try.prog 6 yesS := by
 refine zak (S := Saw14) (T := ty) zat ty_ok Saw14_ok Try.func6 (c := Try.f6.body.getD .skip) (by kernel_rfl) (by kernel_rfl) (fun xs pins hp _ => ?_)
 unfold yesS at hp ⊢
 split at hp
 · refine ⟨by simp,?_⟩
   have p1 : ∃ rs : List Rec,[AV.agg [.w (.int .i64 0),.w (.int .i64 3),.w (.bool true),.str [107],.w (.bool false),.str []]] = rs.map rv := ⟨[R1J],rfl⟩
   have p2 : ∃ rs : List Rec,([] : List AV) = rs.map rv := ⟨[],rfl⟩
   have u1 : rrec (AV.agg [.w (.int .i64 0),.w (.int .i64 3),.w (.bool true),.str [107],.w (.bool false),.str []]) = R1J := rfl
   have f1 : zds 0 [] ⟨5,2,0,0,0,[R1J]⟩ = 0 := fJ1
   have f2 : zds 0 kL1 ⟨9,1,0,0,0,[]⟩ = 0 := fJ2
   have f3 : zds 0 kL2 ⟨9,1,0,0,0,[]⟩ = 16 := fJ3
   have g1 : zec 0 [] ⟨5,2,0,0,0,[R1J]⟩ = .agg [.w (.int .i64 0),.sg 6 (bfr kL1) false] := gJ1
   have g2 : zec 0 kL1 ⟨9,1,0,0,0,[]⟩ = .agg [.w (.int .i64 0),.sg 6 (bfr kL2) false] := gJ2
   have g3 : zec 0 kL2 ⟨9,1,0,0,0,[]⟩ = .agg [.w (.int .i64 0),.sg 6 [] true] := gJ3
   have l1 : (bfr kL1).length = 1 := rfl
   have l2 : (bfr kL2).length = 2 := rfl
   have l3 : (bfr [X2J]).length = 1 := rfl
   have s1 : slot (bfr [X2J]) 0 = .agg [.w (.int .i64 9),.w (.int .i64 1),.w (.int .i64 0),.w (.int .i64 0),.w (.int .i64 0),.sg 6 [] false] := rfl
   have m1 := ubat_bfr kL1
   have m2 := ubat_bfr kL2
   have b1 := isBl_isBs iJ1
   have b2 := isBl_isBs iJ2
   have c1 : ∀ h,coe ty 22 (.sg 6 (bfr kL1) h) = .sg 6 (bfr kL1) h := fun h => rfl
   have c2 : ∀ h,coe ty 22 (.sg 6 (bfr kL2) h) = .sg 6 (bfr kL2) h := fun h => rfl
   have e1 : decide (kL2 = kL2) = true := decide_eq_true rfl
   have e2 : decide (kL1 = kL2) = false := by decide
   have btA : (btG 3 kL2).1 = 5 := by rw [hJ2]
   have btB : (btG 3 kL2).2 = true := by rw [hJ2]
   have iv1 : iav (⟨2,2,[⟨5,3,0⟩]⟩ : Idx) (empE [⟨5,3,0⟩]) = .agg [.w (.int .i64 2),.w (.int .i64 2),.sg 3 [.agg [.w (.int .i64 5),.w (.int .i64 3),.w (.int .i64 0)]] false] := rfl
   have z1 : decide (((1 : Nat) : Int) = 1) = true := rfl
   have dd : ∀ n : Int,decide (n = n) = true := fun n => decide_eq_true rfl
   have ds : ∀ n : List UInt8,decide (n = n) = true := fun n => decide_eq_true rfl
   unfold Try.f6
   simp (config := { maxSteps := 3000000 }) only [go_sem,zaa,Nat.reduceAdd,Nat.reduceSub,Nat.reduceMul,Int.reduceToNat,reduceCtorEq,↓reduceIte,Int.reducePow,Nat.reducePow,Int.reduceMod,Nat.reduceLeDiff,Int.reduceLE,Int.reduceNe,Int.reduceEq,Nat.reduceEqDiff,Nat.reduceLT,Nat.reduceBEq,ty,Saw14,sputS,sfetS,sbtS,skey1S,zer,snewS,sbkS,sndS,sparS,ssameS,schkS,p1,p2,u1,f1,f2,f3,g1,g2,g3,l1,l2,l3,s1,m1,m2,iJ0,iJ1,iJ2,b1,b2,c1,c2,e1,e2,btA,btB,hJ1,hJ3,hJ6,hJ7,hJ8,hJ9,hJa,iv1,dd,ds,z1,fillS,fillG,List.map_nil,List.map_cons,ubat_bfr]
   exact fun y hy => by rw [hy]; rfl
 · exact hp.elim
end
end Go.Proofs.Ytlcijldkdpmknaa
namespace Go.Proofs.Ytlcijldkdpmknaa
open Ax
def lightG (l : List Bat) : Prop := (l.length : Int) ≤ 20 ∧ ∀ b ∈ l,lightB b
instance lightGdec (l : List Bat) : Decidable (lightG l) := by unfold lightG; infer_instance
def slightS : zam
 | [.agg [.w (.int .i64 B),.sg 6 xs f]],[] => ⟨xs.length ≤ 9223372036854775807 ∧ isBs xs,.w (.bool (decide (lightG (xs.map ubat)))),[]⟩
 | _,_ => zay
def isB4 (xs : List AV) : Prop := ∃ es : List (Bat × Bool),xs = es.map bvp ∧ ∀ p ∈ es,p.1.rs.length ≤ 40
def rschkS : zam
 | [.agg [.w (.int .i64 B),.sg 6 xs f]],[] => ⟨xs.length ≤ 1000000 ∧ isB4 xs,.w (.int .i64 (chkG B (xs.map ubat))),[]⟩
 | _,_ => zay
def Slt14 (f : FuncId) : Option zam :=
 match f with
 | 19 => some lallS
 | _ => none
theorem Slt14_ok : Fns Try.prog Slt14 := by
 intro f s h
 unfold Slt14 at h
 split at h
 · injection h with h; subst h; exact ⟨⟨_,Try.func19,by kernel_rfl,by kernel_rfl⟩,lall_sound⟩
 · cases h
def Srck14 (f : FuncId) : Option zam :=
 match f with
 | 20 => some rchkS4
 | 21 => some zer
 | _ => none
theorem Srck14_ok : Fns Try.prog Srck14 := by
 intro f s h
 unfold Srck14 at h
 split at h
 · injection h with h; subst h; exact ⟨⟨_,Try.func20,by kernel_rfl,by kernel_rfl⟩,rchk4_sound⟩
 · injection h with h; subst h; exact ⟨⟨_,Try.func21,by kernel_rfl,by kernel_rfl⟩,rsnext_sound⟩
 · cases h
section
set_option maxRecDepth 100000
set_option maxHeartbeats 1000000 in
theorem slight_sound : zaq Try.prog 4 slightS := by
 refine zak (S := Slt14) (T := ty) zat ty_ok Slt14_ok Try.func4 (c := Try.f4.body.getD .skip) (by kernel_rfl) (by kernel_rfl) (fun xs pins hp _ => ?_)
 unfold slightS at hp ⊢
 split at hp
 · rename_i B xs f _
   obtain ⟨hL,hb⟩ := hp
   have hb0 := hb
   obtain ⟨es,rfl,he⟩ := hb
   refine ⟨by simp,?_⟩
   have hc1 : ∀ h,coe ty 22 (.sg 6 (es.map bvp) h) = .sg 6 (es.map bvp) h := fun h => by cases es <;> rfl
   have hv : decide ((((es.map bvp).length : Nat) : Int) ≤ 20 ∧ ∀ b ∈ (es.map bvp).map ubat,lightB b) = decide (lightG ((es.map bvp).map ubat)) := by
     refine decide_eq_decide.mpr ?_
     unfold lightG
     rw [List.length_map (f := ubat)]
   obtain ⟨K,hK⟩ : ∃ K,decide (lightG ((es.map bvp).map ubat)) = K := ⟨_,rfl⟩
   rw [hK] at hv ⊢
   unfold Try.f4
   simp only [go_sem,zaa,Nat.reduceAdd,Nat.reduceSub,Nat.reduceMul,Int.reduceToNat,reduceCtorEq,↓reduceIte,Int.reducePow,Nat.reducePow,Int.reduceMod,Nat.reduceLeDiff,Int.reduceLE,Int.reduceNe,Int.reduceEq,Nat.reduceEqDiff,Nat.reduceLT,Nat.reduceBEq,ty,Slt14,lallS,hc1,hL,hb0,hv]
 · exact hp.elim
set_option maxHeartbeats 4000000 in
theorem rschk_sound : zaq Try.prog 5 rschkS := by
 refine zak (S := Srck14) (T := tyF) zat tyF_ok Srck14_ok Try.func5 (c := Try.f5.body.getD .skip) (by kernel_rfl) (by kernel_rfl) (fun xs pins hp _ => ?_)
 unfold rschkS at hp ⊢
 split at hp
 · rename_i B xs f _
   obtain ⟨hL,es,rfl,he⟩ := hp
   rw [List.length_map] at hL
   refine ⟨by simp,?_⟩
   have hlp : (es.map bvp).length = es.length := by simp
   rw [zaz]
   obtain ⟨l,hl⟩ : ∃ l,es.map Prod.fst = l := ⟨_,rfl⟩
   rw [hl]
   have hlq : l.length = es.length := by subst hl; simp
   unfold Try.f5
   by_cases hB1 : B < 0
   · have d1 : decide (B < 0) = true := decide_eq_true hB1
     have hv : chkG B l = 11 := if_pos (.inl hB1)
     simp only [go_sem,zaa,Nat.reduceAdd,Nat.reduceSub,Nat.reduceMul,Int.reduceToNat,reduceCtorEq,↓reduceIte,Int.reducePow,Nat.reducePow,Int.reduceMod,Nat.reduceLeDiff,Int.reduceLE,Int.reduceNe,Int.reduceEq,Nat.reduceEqDiff,Nat.reduceLT,Nat.reduceBEq,tyF,zau,ty,Srck14,hlp,d1,hv]
   have d1 : decide (B < 0) = false := decide_eq_false hB1
   by_cases hB2 : 4611686018427387903 < B
   · have d2 : decide (4611686018427387903 < B) = true := decide_eq_true hB2
     have hv : chkG B l = 11 := if_pos (.inr hB2)
     simp only [go_sem,zaa,Nat.reduceAdd,Nat.reduceSub,Nat.reduceMul,Int.reduceToNat,reduceCtorEq,↓reduceIte,Int.reducePow,Nat.reducePow,Int.reduceMod,Nat.reduceLeDiff,Int.reduceLE,Int.reduceNe,Int.reduceEq,Nat.reduceEqDiff,Nat.reduceLT,Nat.reduceBEq,tyF,zau,ty,Srck14,hlp,d1,d2,hv]
   have d2 : decide (4611686018427387903 < B) = false := decide_eq_false hB2
   have hv : chkG B l = chkL B l := if_neg (by omega)
   rw [hv]
   simp only [go_sem,zaa,Nat.reduceAdd,Nat.reduceSub,Nat.reduceMul,Int.reduceToNat,reduceCtorEq,↓reduceIte,Int.reducePow,Nat.reducePow,Int.reduceMod,Nat.reduceLeDiff,Int.reduceLE,Int.reduceNe,Int.reduceEq,Nat.reduceEqDiff,Nat.reduceLT,Nat.reduceBEq,tyF,zau,ty,Srck14,hlp,d1,d2]
   refine zas ⟨fun m σ => ∃ (i : Nat) (a : Int),m = es.length - i ∧ i ≤ es.length ∧ B ≤ a ∧ lastN B (l.take i) = a ∧ chkL B l = chkL a (l.drop i) ∧
       σ = ⟨[.agg [.w (.int .i64 B),.sg 6 (es.map bvp) f],.rf 4 2 0 0,.junk,.w (.int .i64 i),.junk,.junk,.junk,.junk,.junk,.junk,.junk,.junk,.junk,.junk,.junk,.junk,.junk,.junk,.junk,.junk,.junk,.junk,.junk,.junk,.junk,.junk,.junk,.junk,.junk,.junk,.junk,.junk,.junk,.junk,.junk,.junk,.junk,.junk,.junk,.junk,.junk,.junk,.junk,.junk,.junk,.junk,.junk,.junk,.junk,.junk,.junk,.junk,.junk,.junk,.junk,.junk,.junk],[(4,.g 2 [.agg [.w (.int .i64 B),.sg 6 (es.map bvp) f]])],5⟩,?_,?_⟩
   · refine ⟨_,_,zab [0,1,2,3,4] rfl rfl rfl ?_ ?_,0,B,rfl,by omega,Int.le_refl _,rfl,by rw [List.drop_zero],rfl⟩
     · simp only [ssT,zae,zaf,setSlot,gOf,AV.ren,renL,Blk.ren,Ax.look,Ax.put,reduceCtorEq,↓reduceIte,Nat.reduceEqDiff,Nat.reduceLT,Nat.reduceAdd,List.length_append,List.length_cons,List.length_nil,Option.some.injEq]; try simp
     · simp only [ssT,zae,zaf,setSlot,gOf,AV.ren,renL,Blk.ren,Ax.look,Ax.put,reduceCtorEq,↓reduceIte,Nat.reduceEqDiff,Nat.reduceLT,Nat.reduceAdd,List.length_append,List.length_cons,List.length_nil,Option.some.injEq]
   · rintro m σ ⟨i,a,rfl,hi,hBa,hla,hinv,rfl⟩
     have e1 : ((i : Int) + 1 + 9223372036854775808) % 18446744073709551616 - 9223372036854775808 = ((i + 1 : Nat) : Int) := by omega
     by_cases hil : i < es.length
     · have d3 : decide ((i : Int) < es.length) = true := decide_eq_true (by omega)
       have hs1 := zbb es i hil
       have m1 := he es[i] (List.getElem_mem hil)
       have hli : l[i]'(by omega) = es[i].1 := by subst hl; simp
       have hdr : l.drop i = l[i]'(by omega) :: l.drop (i + 1) := List.drop_eq_getElem_cons (by omega)
       have hnx : lastN B (l.take (i + 1)) = nxB (l[i]'(by omega)) := by rw [List.take_succ_eq_append_getElem (by omega)]; exact lastN_snoc _ _ _
       rw [hli] at hdr hnx
       have htk : List.take (i - 0) (es.map bvp) = (es.take i).map bvp := by rw [Nat.sub_zero,List.map_take]
       have n3 : ((es.take i).map bvp).length ≤ 9223372036854775807 := by simp; omega
       have x3 : isBs ((es.take i).map bvp) := ⟨_,rfl,fun p hp => by have := he p (List.mem_of_mem_take hp); omega⟩
       have v3 : lastN B (((es.take i).map bvp).map ubat) = a := by rw [zaz,List.map_take,hl]; exact hla
       obtain ⟨P,hP⟩ : ∃ P,es[i] = P := ⟨_,rfl⟩
       rw [hP] at hs1 m1 hdr hnx
       rw [hdr] at hinv
       obtain ⟨⟨b,c,p,e,s,rs⟩,f'⟩ := P
       have hs1 : slot (es.map bvp) i = .agg [.w (.int .i64 b),.w (.int .i64 c),.w (.int .i64 p),.w (.int .i64 e),.w (.int .i64 s),.sg 6 (rs.map rv) f'] := hs1
       simp only at m1
       have n1 : (rs.map rv).length ≤ 40 := by rw [List.length_map]; exact m1
       have x1 : ∃ k : List Rec,rs.map rv = k.map rv := ⟨rs,rfl⟩
       have r1 := zaj rs
       have hinv : chkL B l = if batE b c p e s rs = 0 then (if b < a then 16 else chkL (nxB ⟨b,c,p,e,s,rs⟩) (l.drop (i + 1))) else batE b c p e s rs := hinv
       have hfc := fun h : batE b c p e s rs = 0 => bE_nx (x := ⟨b,c,p,e,s,rs⟩) h
       obtain ⟨E,hE⟩ : ∃ E,batE b c p e s rs = E := ⟨_,rfl⟩
       rw [hE] at hinv hfc
       obtain ⟨N,hN⟩ : ∃ N,nxB ⟨b,c,p,e,s,rs⟩ = N := ⟨_,rfl⟩
       simp only at hfc hnx
       rw [hN] at hinv hfc hnx
       by_cases g1 : E = 0
       · have d4 : decide (E = 0) = true := decide_eq_true g1
         have hf := hfc g1
         rw [if_pos g1] at hinv
         by_cases g2 : b < a
         · rw [if_pos g2] at hinv
           have d5 : decide (b < a) = true := decide_eq_true g2
           cases d6 : decide (b < B) with
           | true =>
             simp only [go_sem,zaa,Nat.reduceAdd,Nat.reduceSub,Nat.reduceMul,Int.reduceToNat,reduceCtorEq,↓reduceIte,Int.reducePow,Nat.reducePow,Int.reduceMod,Nat.reduceLeDiff,Int.reduceLE,Int.reduceNe,Int.reduceEq,Nat.reduceEqDiff,Nat.reduceLT,Nat.reduceBEq,tyF,zau,ty,Srck14,rchkS4,zer,hlp,htk,n3,x3,v3,d3,d4,d5,d6,hs1,n1,x1,r1,hE,hinv,Int.toNat_natCast,Bool.not_true,fillS]
             try omega
           | false =>
             simp only [go_sem,zaa,Nat.reduceAdd,Nat.reduceSub,Nat.reduceMul,Int.reduceToNat,reduceCtorEq,↓reduceIte,Int.reducePow,Nat.reducePow,Int.reduceMod,Nat.reduceLeDiff,Int.reduceLE,Int.reduceNe,Int.reduceEq,Nat.reduceEqDiff,Nat.reduceLT,Nat.reduceBEq,tyF,zau,ty,Srck14,rchkS4,zer,hlp,htk,n3,x3,v3,d3,d4,d5,d6,hs1,n1,x1,r1,hE,hinv,Int.toNat_natCast,Bool.not_true,fillS]
             try omega
         · have d5 : decide (b < a) = false := decide_eq_false g2
           have d6 : decide (b < B) = false := decide_eq_false (by omega)
           rw [if_neg g2] at hinv
           simp only [go_sem,zaa,Nat.reduceAdd,Nat.reduceSub,Nat.reduceMul,Int.reduceToNat,reduceCtorEq,↓reduceIte,Int.reducePow,Nat.reducePow,Int.reduceMod,Nat.reduceLeDiff,Int.reduceLE,Int.reduceNe,Int.reduceEq,Nat.reduceEqDiff,Nat.reduceLT,Nat.reduceBEq,tyF,zau,ty,Srck14,rchkS4,zer,hlp,htk,n3,x3,v3,d3,d4,d5,d6,e1,hs1,n1,x1,r1,hE,Int.toNat_natCast,Bool.not_true,fillS]
           repeat (refine And.intro (by omega) ?_)
           refine ⟨es.length - (i + 1),_,by omega,zab [0,1,2,3,4] rfl rfl rfl ?_ ?_,i + 1,N,rfl,by omega,by omega,hnx,hinv,rfl⟩
           · simp only [ssT,zae,zaf,setSlot,gOf,AV.ren,renL,Blk.ren,Ax.look,Ax.put,reduceCtorEq,↓reduceIte,Nat.reduceEqDiff,Nat.reduceLT,Nat.reduceAdd,List.length_append,List.length_cons,List.length_nil,Option.some.injEq]
           · simp only [ssT,zae,zaf,setSlot,gOf,AV.ren,renL,Blk.ren,Ax.look,Ax.put,reduceCtorEq,↓reduceIte,Nat.reduceEqDiff,Nat.reduceLT,Nat.reduceAdd,List.length_append,List.length_cons,List.length_nil,Option.some.injEq]
       · have d4 : decide (E = 0) = false := decide_eq_false g1
         rw [if_neg g1] at hinv
         simp only [go_sem,zaa,Nat.reduceAdd,Nat.reduceSub,Nat.reduceMul,Int.reduceToNat,reduceCtorEq,↓reduceIte,Int.reducePow,Nat.reducePow,Int.reduceMod,Nat.reduceLeDiff,Int.reduceLE,Int.reduceNe,Int.reduceEq,Nat.reduceEqDiff,Nat.reduceLT,Nat.reduceBEq,tyF,zau,ty,Srck14,rchkS4,zer,hlp,d3,d4,hs1,n1,x1,r1,hE,hinv,Int.toNat_natCast,Bool.not_false]
         try omega
     · have d3 : decide ((i : Int) < es.length) = false := decide_eq_false (by omega)
       have hdr : l.drop i = [] := List.drop_eq_nil_of_le (by omega)
       rw [hdr] at hinv
       have hv2 : chkL B l = 0 := hinv
       simp only [go_sem,zaa,Nat.reduceAdd,Nat.reduceSub,Nat.reduceMul,Int.reduceToNat,reduceCtorEq,↓reduceIte,Int.reducePow,Nat.reducePow,Int.reduceMod,Nat.reduceLeDiff,Int.reduceLE,Int.reduceNe,Int.reduceEq,Nat.reduceEqDiff,Nat.reduceLT,Nat.reduceBEq,tyF,zau,ty,Srck14,hlp,d3,hv2]
 · exact hp.elim
end
end Go.Proofs.Ytlcijldkdpmknaa
namespace Go.Proofs.Ytlcijldkdpmknaa
open Ax
set_option maxRecDepth 10000
theorem all_rvJ : ∀ (xs : List AV),(∀ x ∈ xs,∃ r : Rec,x = rv r) → ∃ rs : List Rec,xs = rs.map rv
 | [],_ => ⟨[],rfl⟩
 | x :: xs,h => by
   obtain ⟨r,rfl⟩ := h x (by simp)
   obtain ⟨rs,rfl⟩ := all_rvJ xs (fun y hy => h y (by simp [hy]))
   exact ⟨r :: rs,rfl⟩
theorem all_bvpJ : ∀ (xs : List AV),(∀ x ∈ xs,∃ p : Bat × Bool,x = bvp p ∧ p.1.rs.length ≤ 9223372036854775807) → ∃ es : List (Bat × Bool),xs = es.map bvp ∧ ∀ p ∈ es,p.1.rs.length ≤ 9223372036854775807
 | [],_ => ⟨[],rfl,by simp⟩
 | x :: xs,h => by
   obtain ⟨p,rfl,hp⟩ := h x (by simp)
   obtain ⟨es,rfl,he⟩ := all_bvpJ xs (fun y hy => h y (by simp [hy]))
   refine ⟨p :: es,rfl,?_⟩
   intro q hq
   rcases List.mem_cons.1 hq with rfl | hq
   · exact hp
   · exact he q hq
theorem arg_segJ {j : Nat} {x : AV} (h : Arg ty (j + 7) 24 x) : ∃ (B : Int) (xs : List AV) (f : Bool),x = .agg [.w (.int .i64 B),.sg 6 xs f] ∧ xs.length ≤ 9223372036854775807 ∧ isBs xs := by
 obtain ⟨i,ls,hi,hs,rfl⟩ := h
 simp only [ty] at hi
 injection hi with hi
 subst hi
 simp only [Shape,ty,ShapeF,isFlatI] at hs
 obtain ⟨l1,r1,rfl,⟨m1,rfl,w1⟩,l2,r2,rfl,⟨xs,f1,rfl,hx,hxs⟩,rfl⟩ := hs
 have hm : maxLen = 9223372036854775807 := by decide
 obtain ⟨es,rfl,hes⟩ := all_bvpJ xs (fun x hxm => by
   obtain ⟨l,⟨k1,s1,rfl,⟨n1,rfl,v1⟩,k2,s2,rfl,⟨n2,rfl,v2⟩,k3,s3,rfl,⟨n3,rfl,v3⟩,k4,s4,rfl,⟨n4,rfl,v4⟩,k5,s5,rfl,⟨n5,rfl,v5⟩,k6,s6,rfl,⟨ys,f,rfl,hl,hy⟩,rfl⟩,_,rfl⟩ := hxs x hxm
   obtain ⟨rs,rfl⟩ := all_rvJ ys (fun y hym => by
     obtain ⟨l,⟨l1,r1,rfl,⟨m1,rfl,w1⟩,l2,r2,rfl,⟨m2,rfl,w2⟩,l3,r3,rfl,⟨m3,rfl⟩,l4,r4,rfl,⟨m4,rfl,w4⟩,l5,r5,rfl,⟨m5,rfl⟩,l6,r6,rfl,⟨m6,rfl,w6⟩,rfl⟩,_,rfl⟩ := hy y hym
     exact ⟨⟨m1,m2,m3,m4,m5,m6⟩,rfl⟩)
   rw [List.length_map] at hl
   exact ⟨⟨⟨n1,n2,n3,n4,n5,rs⟩,f⟩,rfl,by simp only; omega⟩)
 exact ⟨m1,es.map bvp,f1,rfl,by omega,es,rfl,hes⟩
theorem arg_intJ {n : Nat} {x : AV} (h : Arg ty (n + 1) 3 x) : ∃ m : Int,x = .w (.int .i64 m) := by
 obtain ⟨i,ls,hi,hs,rfl⟩ := h
 simp only [ty] at hi
 injection hi with hi
 subst hi
 simp only [Shape,ty,ShapeF] at hs
 obtain ⟨m,rfl,_⟩ := hs
 exact ⟨m,rfl⟩
theorem light_facts {xs : List AV} (hb : isBs xs) (h : lightG (xs.map ubat)) : xs.length ≤ 20 ∧ isB4 xs ∧ isBl xs := by
 obtain ⟨es,rfl,he⟩ := hb
 unfold lightG at h
 rw [zaz] at h
 have h4 : ∀ p ∈ es,p.1.rs.length ≤ 40 := fun p hp => (h.2 p.1 (List.mem_map.2 ⟨p,hp,rfl⟩)).1
 refine ⟨by have := h.1; simp at this ⊢; omega,⟨es,rfl,h4⟩,es,rfl,fun p hp => by have := h4 p hp; omega⟩
theorem b4_all {xs : List AV} (h : isB4 xs) : ∀ x ∈ xs.map ubat,x.rs.length ≤ 40 := by
 obtain ⟨es,rfl,he⟩ := h
 rw [zaz]
 intro x hx
 obtain ⟨p,hp,rfl⟩ := List.mem_map.1 hx
 exact he p hp
section
set_option maxRecDepth 100000
set_option maxHeartbeats 2000000 in
end
end Go.Proofs.Ytlcijldkdpmknaa
namespace Go.Proofs.Ytlcijldkdpmknaa
open Ax
def hlv (A : Nat → Bool) : Nat → Nat → Nat → Nat
 | 0,lo,_ => lo
 | f + 1,lo,hi => if lo < hi then (if A (lo + (hi - lo) / 2) then hlv A f lo (lo + (hi - lo) / 2) else hlv A f (lo + (hi - lo) / 2 + 1) hi) else lo
section
set_option maxRecDepth 100000
set_option maxHeartbeats 1000000 in
end
end Go.Proofs.Ytlcijldkdpmknaa
namespace Go.Proofs.Ytlcijldkdpmknaa
open Ax
instance : DecidableEq Ent := fun a b => decidable_of_iff (a.o = b.o ∧ a.t = b.t ∧ a.a = b.a) (by cases a; cases b; simp)
section
set_option maxRecDepth 100000
set_option maxHeartbeats 1000000 in
set_option maxHeartbeats 1000000 in
set_option maxHeartbeats 1000000 in
end
end Go.Proofs.Ytlcijldkdpmknaa
namespace Go.Proofs.Ytlcijldkdpmknaa
open Ax
section
set_option maxRecDepth 100000
set_option maxHeartbeats 1000000 in
theorem rnewI12_sound : zaq Try.prog 53 zbq := by
 refine zak (S := noS) (T := ty) zat ty_ok zbo Try.func53 (c := Try.f53.body.getD .skip) (by kernel_rfl) (by kernel_rfl) (fun xs pins hp _ => ?_)
 unfold zbq at hp ⊢
 split at hp
 · rename_i v _
   refine ⟨by simp,?_⟩
   have em1 : (if v > 1 then v else 1) = max v 1 := by split <;> omega
   have em2 : (if (1 : Int) > v then 1 else v) = max v 1 := by split <;> omega
   unfold Try.f53
   simp only [go_sem,coe,zaa,Nat.reduceAdd,Nat.reduceSub,Nat.reduceMul,Int.reduceToNat,reduceCtorEq,↓reduceIte,Int.reducePow,Nat.reducePow,Int.reduceMod,Nat.reduceLeDiff,Int.reduceLE,Int.reduceNe,Int.reduceEq,Nat.reduceEqDiff,Nat.reduceLT,Nat.reduceBEq,ty,noS,em1,em2,fillS]
 · exact hp.elim
set_option maxHeartbeats 1000000 in
end
end Go.Proofs.Ytlcijldkdpmknaa
namespace Go.Proofs.Ytlcijldkdpmknaa
open Ax
theorem ids_entF : ∀ (G : List Ent),idsL (G.map ent) = []
 | [] => rfl
 | x :: r => by simp only [List.map_cons,idsL,ent,AV.ids,List.nil_append]; exact ids_entF r
def raddS : zam
 | [.agg [.w (.int .i64 v),.w (.int .i64 c),.sg 3 xs f],.agg [.w (.int .i64 o),.w (.int .i64 t),.w (.int .i64 a)]],[] => ⟨xs.length ≤ 900000 ∧ ∃ es : List Ent,xs = es.map ent,
     .agg [.w (.int .i64 (addI ⟨v,c,xs.map uent⟩ ⟨o,t,a⟩).v),.w (.int .i64 (addI ⟨v,c,xs.map uent⟩ ⟨o,t,a⟩).c),.sg 3 ((addI ⟨v,c,xs.map uent⟩ ⟨o,t,a⟩).es.map ent) (!decide (zdq v c) && f)],[]⟩
 | _,_ => zay
def raddPl : Plan := fun id => match id with
 | 9 => some [(3,4),(3,5)]
 | _ => none
section
set_option maxRecDepth 100000
set_option maxHeartbeats 2000000 in
theorem raddI_sound : zaq Try.prog 54 raddS := by
 refine fn_soundF (S := noS) (T := ty) (pl := raddPl) zat ty_ok zbo Try.func54 (c := Try.f54.body.getD .skip) (by kernel_rfl) (by kernel_rfl) (fun xs pins hp _ => ?_)
 unfold raddS at hp ⊢
 split at hp
 · rename_i v c xs f o t a _
   obtain ⟨hL,es,rfl⟩ := hp
   rw [List.length_map] at hL
   have hl4 : (es.map ent).length = es.length := by simp
   refine ⟨by simp,?_⟩
   have hinc : (c + 1 + 9223372036854775808) % 18446744073709551616 - 9223372036854775808 = inc c := rfl
   have htop : es.length ≤ top := by unfold top; omega
   have htop1 : es.length + 1 ≤ top := by unfold top; omega
   unfold Try.f54
   by_cases ht : zdq v c
   · have dt : decide (zdq v c) = true := decide_eq_true ht
     have D : decide (v < 1) = true ∨ (¬ v = 0 ∧ decide (v < 1) = false ∧ decide (c.tmod v = 0) = true) := by
       rcases takes_cases v c with D | D | D
       · exact .inl D.1
       · exact .inr ⟨D.1,D.2.1,D.2.2.1⟩
       · exact absurd ht D.2.2.2
     have ha : addI ⟨v,c,es⟩ ⟨o,t,a⟩ = ⟨v,inc c,es ++ [⟨o,lastT t es,a⟩]⟩ := by unfold addI; simp only; rw [if_pos ht]
     by_cases hz : es.length = 0
     · obtain rfl : es = [] := List.eq_nil_of_length_eq_zero hz
       have z0 : decide ((0 : Int) < ((0 : Nat) : Int)) = false := rfl
       have lt0 : lastT t [] = t := rfl
       have hdle : decide (0 + 1 ≤ [AV.agg [.w (.int .i64 o),.w (.int .i64 t),.w (.int .i64 a)]].length) = true := rfl
       have htk : [AV.agg [.w (.int .i64 o),.w (.int .i64 t),.w (.int .i64 a)]].take 1 = [AV.agg [.w (.int .i64 o),.w (.int .i64 t),.w (.int .i64 a)]] := rfl
       rcases D with D | D
       all_goals simp only [go_sem,zag,Nat.reduceAdd,Nat.reduceSub,Nat.reduceMul,Int.reduceToNat,reduceCtorEq,↓reduceIte,Int.reducePow,Nat.reducePow,Int.reduceMod,Nat.reduceLeDiff,Int.reduceLE,Int.reduceNe,Int.reduceEq,Nat.reduceEqDiff,Nat.reduceLT,Nat.reduceBEq,List.map_cons,List.map_nil,List.toList_toArray,Array.toList_append,Option.toArray_some,Option.toArray_none,Bool.and_self,ty,noS,raddPl,hl4,hinc,z0,D,dt,ha,List.map_nil,List.length_nil,fillS]
       all_goals refine ⟨by unfold top; omega,?_⟩
       all_goals refine ⟨_,zfo 284 3 50 [.agg [.w (.int .i64 o),.w (.int .i64 t),.w (.int .i64 a)]] rfl rfl (by simp [slot,AV.ids,idsL]),?_⟩
       all_goals simp only [fgL,fgH,AV.fg,Blk.fg,Nat.reduceBEq,cond_true,cond_false,hdle,Bool.and_true,beq_self_eq_true,Bool.true_and,List.drop_zero,htk]
       all_goals simp only [go_sem,zag,Nat.reduceAdd,Nat.reduceSub,Nat.reduceMul,Int.reduceToNat,reduceCtorEq,↓reduceIte,Int.reducePow,Nat.reducePow,Int.reduceMod,Nat.reduceLeDiff,Int.reduceLE,Int.reduceNe,Int.reduceEq,Nat.reduceEqDiff,Nat.reduceLT,Nat.reduceBEq,List.map_cons,List.map_nil,List.toList_toArray,Array.toList_append,Option.toArray_some,Option.toArray_none,Bool.and_self,ty,noS,raddPl,ha,dt,ent,lt0,List.nil_append,List.map_cons,List.map_nil,Bool.not_true,Bool.false_and]
     · obtain ⟨L,hL1⟩ : ∃ L,es.getLast? = some L := by
         cases h : es.getLast? with
         | some L => exact ⟨L,rfl⟩
         | none => rw [List.getLast?_eq_none_iff] at h; subst h; simp at hz
       have hs : slot (es.map ent) (es.length - 1) = .agg [.w (.int .i64 L.o),.w (.int .i64 L.t),.w (.int .i64 L.a)] := by
         rw [slot_ent es _ (by omega)]
         have : es[es.length - 1]'(by omega) = L := by
           rw [List.getLast?_eq_getElem?,List.getElem?_eq_getElem (by omega)] at hL1
           injection hL1
         rw [this]; rfl
       have hlt : lastT t es = max t L.t := by unfold lastT; rw [hL1]
       have em1 : (if t > L.t then t else L.t) = max t L.t := by split <;> omega
       have em2 : (if L.t > t then L.t else t) = max t L.t := by split <;> omega
       have d0 : decide ((0 : Int) < (es.length : Int)) = true := decide_eq_true (by omega)
       have e1 : ((es.length : Int) - 1 + 9223372036854775808) % 18446744073709551616 - 9223372036854775808 = ((es.length - 1 : Nat) : Int) := by omega
       have hids : idsL (es.map ent ++ [AV.agg [.w (.int .i64 o),.w (.int .i64 (max t L.t)),.w (.int .i64 a)]]) = [] := by
         have := ids_entF (es ++ [⟨o,max t L.t,a⟩])
         rw [List.map_append] at this
         exact this
       have hcl : closedL (es.map ent ++ [AV.agg [.w (.int .i64 o),.w (.int .i64 (max t L.t)),.w (.int .i64 a)]]) = true := by
         have := zbg (es ++ [⟨o,max t L.t,a⟩])
         rw [List.map_append] at this
         exact this
       have hdle : decide (0 + (es.length + 1) ≤ (es.map ent ++ [AV.agg [.w (.int .i64 o),.w (.int .i64 (max t L.t)),.w (.int .i64 a)]]).length) = true := decide_eq_true (by simp)
       have htk : (es.map ent ++ [AV.agg [.w (.int .i64 o),.w (.int .i64 (max t L.t)),.w (.int .i64 a)]]).take (es.length + 1) = (es.map ent ++ [AV.agg [.w (.int .i64 o),.w (.int .i64 (max t L.t)),.w (.int .i64 a)]]) := List.take_of_length_le (by simp)
       rcases D with D | D
       all_goals simp only [go_sem,zag,Nat.reduceAdd,Nat.reduceSub,Nat.reduceMul,Int.reduceToNat,reduceCtorEq,↓reduceIte,Int.reducePow,Nat.reducePow,Int.reduceMod,Nat.reduceLeDiff,Int.reduceLE,Int.reduceNe,Int.reduceEq,Nat.reduceEqDiff,Nat.reduceLT,Nat.reduceBEq,List.map_cons,List.map_nil,List.toList_toArray,Array.toList_append,Option.toArray_some,Option.toArray_none,Bool.and_self,ty,noS,raddPl,hl4,hids,hinc,d0,e1,hs,em1,em2,D,dt,ids_entF,zco,ha,hlt,fillS,Int.toNat_natCast]
       all_goals refine ⟨⟨by omega,by omega⟩,htop,htop1,?_⟩
       all_goals refine ⟨_,zfo 380 3 50 (es.map ent ++ [AV.agg [.w (.int .i64 o),.w (.int .i64 (max t L.t)),.w (.int .i64 a)]]) rfl hcl (by simp [slot,AV.ids,idsL]),?_⟩
       all_goals simp only [fgL,fgH,AV.fg,Blk.fg,Nat.reduceBEq,cond_true,cond_false,hdle,Bool.and_true,beq_self_eq_true,Bool.true_and,List.drop_zero,htk]
       all_goals simp only [go_sem,zag,Nat.reduceAdd,Nat.reduceSub,Nat.reduceMul,Int.reduceToNat,reduceCtorEq,↓reduceIte,Int.reducePow,Nat.reducePow,Int.reduceMod,Nat.reduceLeDiff,Int.reduceLE,Int.reduceNe,Int.reduceEq,Nat.reduceEqDiff,Nat.reduceLT,Nat.reduceBEq,List.map_cons,List.map_nil,List.toList_toArray,Array.toList_append,Option.toArray_some,Option.toArray_none,Bool.and_self,ty,noS,raddPl,ha,dt,hlt,ent,zco,List.map_append,List.map_cons,List.map_nil,Bool.not_true,Bool.false_and]
   · have dt : decide (zdq v c) = false := decide_eq_false ht
     have D : ¬ v = 0 ∧ decide (v < 1) = false ∧ decide (c.tmod v = 0) = false := by
       rcases takes_cases v c with D | D | D
       · exact absurd D.2 ht
       · exact absurd D.2.2.2 ht
       · exact ⟨D.1,D.2.1,D.2.2.1⟩
     have ha : addI ⟨v,c,es⟩ ⟨o,t,a⟩ = ⟨v,inc c,es⟩ := by unfold addI; simp only; rw [if_neg ht]
     simp only [go_sem,zag,Nat.reduceAdd,Nat.reduceSub,Nat.reduceMul,Int.reduceToNat,reduceCtorEq,↓reduceIte,Int.reducePow,Nat.reducePow,Int.reduceMod,Nat.reduceLeDiff,Int.reduceLE,Int.reduceNe,Int.reduceEq,Nat.reduceEqDiff,Nat.reduceLT,Nat.reduceBEq,List.map_cons,List.map_nil,List.toList_toArray,Array.toList_append,Option.toArray_some,Option.toArray_none,Bool.and_self,ty,noS,raddPl,hl4,hinc,D,dt,fillS]
     refine ⟨_,Weak.refl _,?_⟩
     simp only [go_sem,zag,Nat.reduceAdd,Nat.reduceSub,Nat.reduceMul,Int.reduceToNat,reduceCtorEq,↓reduceIte,Int.reducePow,Nat.reducePow,Int.reduceMod,Nat.reduceLeDiff,Int.reduceLE,Int.reduceNe,Int.reduceEq,Nat.reduceEqDiff,Nat.reduceLT,Nat.reduceBEq,List.map_cons,List.map_nil,List.toList_toArray,Array.toList_append,Option.toArray_some,Option.toArray_none,Bool.and_self,ty,noS,raddPl,ha,dt,zco,Bool.not_false,Bool.true_and]
 · exact hp.elim
end
end Go.Proofs.Ytlcijldkdpmknaa
namespace Go.Proofs.Ytlcijldkdpmknaa
open Ax
def rbuildS : zam
 | [.w (.int .i64 v),.sg 3 xs f],[] => ⟨xs.length ≤ 100000 ∧ ∃ es : List Ent,xs = es.map ent,.agg [.w (.int .i64 (bldI v (xs.map uent)).v),.w (.int .i64 (bldI v (xs.map uent)).c),.sg 3 ((bldI v (xs.map uent)).es.map ent) (decide (xs.length = 0))],[]⟩
 | _,_ => zay
def Srbuild12 (f : FuncId) : Option zam :=
 match f with
 | 53 => some zbq
 | 54 => some raddS
 | _ => none
theorem Srbuild12_ok : Fns Try.prog Srbuild12 := by
 intro f s h
 unfold Srbuild12 at h
 split at h
 · injection h with h; subst h; exact ⟨⟨_,Try.func53,by kernel_rfl,by kernel_rfl⟩,rnewI12_sound⟩
 · injection h with h; subst h; exact ⟨⟨_,Try.func54,by kernel_rfl,by kernel_rfl⟩,raddI_sound⟩
 · cases h
section
set_option maxRecDepth 100000
set_option maxHeartbeats 2000000 in
theorem rbuildI_sound : zaq Try.prog 35 rbuildS := by
 refine zak (S := Srbuild12) (T := ty) zat ty_ok Srbuild12_ok Try.func35 (c := Try.f35.body.getD .skip) (by kernel_rfl) (by kernel_rfl) (fun xs pins hp _ => ?_)
 unfold rbuildS at hp ⊢
 split at hp
 · rename_i v xs f _
   obtain ⟨hL,es,rfl⟩ := hp
   rw [List.length_map] at hL
   refine ⟨by simp,?_⟩
   have hl4 : (es.map ent).length = es.length := by simp
   obtain ⟨V,hV⟩ : ∃ V,max v 1 = V := ⟨_,rfl⟩
   have hbld : bldI v es = es.foldl addI ⟨V,0,[]⟩ := by rw [← hV]; rfl
   unfold Try.f35
   simp only [go_sem,zaa,Nat.reduceAdd,Nat.reduceSub,Nat.reduceMul,Int.reduceToNat,reduceCtorEq,↓reduceIte,Int.reducePow,Nat.reducePow,Int.reduceMod,Nat.reduceLeDiff,Int.reduceLE,Int.reduceNe,Int.reduceEq,Nat.reduceEqDiff,Nat.reduceLT,Nat.reduceBEq,ty,Srbuild12,zbq,raddS,hl4,hV,zco]
   refine zas ⟨fun m σ => ∃ (i : Nat) (X : Idx),m = es.length - i ∧ i ≤ es.length ∧ X = (es.take i).foldl addI ⟨V,0,[]⟩ ∧
       σ = ⟨[.w (.int .i64 v),.sg 3 (es.map ent) f,.junk,.junk,.rf 4 3 0 0,.rf 5 3 0 0,.w (.int .i64 i),.junk,.junk,.junk,.junk,.junk,.junk,.junk,.junk,.junk,.junk,.junk,.junk,.junk,.junk,.junk],[(4,.g 3 [.agg [.w (.int .i64 0),.w (.int .i64 0),.sg 3 [] true]]),(5,.g 3 [.agg [.w (.int .i64 X.v),.w (.int .i64 X.c),.sg 3 (X.es.map ent) (decide (i = 0))]])],6⟩,?_,?_⟩
   · refine ⟨_,_,zab [0,1,2,3,4,28] rfl rfl rfl ?_ ?_,0,_,rfl,by omega,rfl,rfl⟩
     · simp only [ssT,zae,zaf,setSlot,gOf,AV.ren,renL,Blk.ren,Ax.look,Ax.put,reduceCtorEq,↓reduceIte,Nat.reduceEqDiff,Nat.reduceLT,Nat.reduceAdd,List.length_append,List.length_cons,List.length_nil,Option.some.injEq]; try simp
     · simp only [ssT,zae,zaf,setSlot,gOf,AV.ren,renL,Blk.ren,Ax.look,Ax.put,reduceCtorEq,↓reduceIte,Nat.reduceEqDiff,Nat.reduceLT,Nat.reduceAdd,List.length_append,List.length_cons,List.length_nil,Option.some.injEq]; try simp
   · rintro m σ ⟨i,X,rfl,hi,hX,rfl⟩
     have hXl : X.es.length ≤ 900000 := by
       have := fold_len (es.take i) ⟨V,0,[]⟩
       rw [← hX,List.length_take] at this
       simp at this; omega
     have hXl2 : (X.es.map ent).length = X.es.length := by simp
     have hx1 : ∃ qs : List Ent,X.es.map ent = qs.map ent := ⟨X.es,rfl⟩
     have hc1 : ∀ g,coe ty 44 (.sg 3 (X.es.map ent) g) = .sg 3 (X.es.map ent) g := fun g => by cases X.es <;> rfl
     by_cases hil : i < es.length
     · have d1 : decide ((i : Int) < es.length) = true := decide_eq_true (by omega)
       have e1 : ((i : Int) + 1 + 9223372036854775808) % 18446744073709551616 - 9223372036854775808 = ((i + 1 : Nat) : Int) := by omega
       have hs1 := slot_ent es i hil
       have hf := fold_snoc ⟨V,0,[]⟩ es i hil
       obtain ⟨P,hP⟩ : ∃ P,es[i] = P := ⟨_,rfl⟩
       rw [hP] at hs1 hf
       rw [← hX] at hf
       simp only [ent] at hs1
       have hfl : (!decide (zdq X.v X.c) && decide (i = 0)) = decide (i + 1 = 0) := by
         have h2 : decide (i + 1 = 0) = false := decide_eq_false (by omega)
         rw [h2]
         by_cases h0 : i = 0
         · subst h0
           have : zdq X.v X.c := by rw [hX]; exact .inr (by simp)
           rw [decide_eq_true this]; rfl
         · rw [decide_eq_false h0,Bool.and_false]
       simp only [go_sem,zaa,Nat.reduceAdd,Nat.reduceSub,Nat.reduceMul,Int.reduceToNat,reduceCtorEq,↓reduceIte,Int.reducePow,Nat.reducePow,Int.reduceMod,Nat.reduceLeDiff,Int.reduceLE,Int.reduceNe,Int.reduceEq,Nat.reduceEqDiff,Nat.reduceLT,Nat.reduceBEq,ty,Srbuild12,zbq,raddS,hl4,d1,hs1,e1,hXl,hXl2,hx1,hc1,zco,hfl,Int.toNat_natCast]
       repeat (refine And.intro (by omega) ?_)
       refine ⟨es.length - (i + 1),_,by omega,zab [0,1,2,3,4,5] rfl rfl rfl ?_ ?_,i + 1,addI X P,rfl,by omega,hf.symm,rfl⟩
       · simp only [ssT,zae,zaf,setSlot,gOf,AV.ren,renL,Blk.ren,Ax.look,Ax.put,reduceCtorEq,↓reduceIte,Nat.reduceEqDiff,Nat.reduceLT,Nat.reduceAdd,List.length_append,List.length_cons,List.length_nil,Option.some.injEq]; try simp
       · simp only [ssT,zae,zaf,setSlot,gOf,AV.ren,renL,Blk.ren,Ax.look,Ax.put,reduceCtorEq,↓reduceIte,Nat.reduceEqDiff,Nat.reduceLT,Nat.reduceAdd,List.length_append,List.length_cons,List.length_nil,Option.some.injEq,ren_ent]; try simp
     · have d1 : decide ((i : Int) < es.length) = false := decide_eq_false (by omega)
       have hb : bldI v es = X := by
         rw [hbld,hX]
         have : es.take i = es := List.take_of_length_le (by omega)
         rw [this]
       obtain rfl : i = es.length := by omega
       simp only [go_sem,zaa,Nat.reduceAdd,Nat.reduceSub,Nat.reduceMul,Int.reduceToNat,reduceCtorEq,↓reduceIte,Int.reducePow,Nat.reducePow,Int.reduceMod,Nat.reduceLeDiff,Int.reduceLE,Int.reduceNe,Int.reduceEq,Nat.reduceEqDiff,Nat.reduceLT,Nat.reduceBEq,ty,Srbuild12,zbq,raddS,hl4,d1,hb,zco]
 · exact hp.elim
end
end Go.Proofs.Ytlcijldkdpmknaa
namespace Go.Proofs.Ytlcijldkdpmknaa
open Ax
def nwD (l : List Bat) (a : Int) : Int := l.foldl (fun a x => max a (newI x.rs (-1))) a
def rsnewS : zam
 | [.agg [.w (.int .i64 B),.sg 6 xs f]],[] => ⟨xs.length ≤ 1000000 ∧ isBs xs,.w (.int .i64 (nwD (xs.map ubat) (-1))),[]⟩
 | _,_ => zay
def rsndS : zam
 | [.agg [.w (.int .i64 b),.w (.int .i64 c),.w (.int .i64 p),.w (.int .i64 e),.w (.int .i64 s),.sg 6 ys g]],[] => ⟨ys.length ≤ 40 ∧ ∃ rs : List Rec,ys = rs.map rv,.w (.int .i64 (ndB ⟨b,c,p,e,s,ys.map rrec⟩)),[]⟩
 | _,_ => zay
def rsbkS : zam
 | [.agg [.w (.int .i64 B),.sg 6 xs f]],[] => ⟨xs.length ≤ 1000000 ∧ isB4 xs,.w (.int .i64 (ndI (xs.map ubat) 0)),[]⟩
 | _,_ => zay
def Srsnew14 (f : FuncId) : Option zam :=
 match f with
 | 29 => some rnewS
 | _ => none
theorem Srsnew14_ok : Fns Try.prog Srsnew14 := by
 intro f s h
 unfold Srsnew14 at h
 split at h
 · injection h with h; subst h; exact ⟨⟨_,Try.func29,by kernel_rfl,by kernel_rfl⟩,rnew_sound⟩
 · cases h
def Srfn14 (f : FuncId) : Option zam :=
 match f with
 | 50 => some needS
 | _ => none
theorem Srfn14_ok : Fns Try.prog Srfn14 := by
 intro f s h
 unfold Srfn14 at h
 split at h
 · injection h with h; subst h; exact ⟨⟨_,Try.func50,by kernel_rfl,by kernel_rfl⟩,rneed_sound⟩
 · cases h
section
set_option maxRecDepth 100000
set_option maxHeartbeats 4000000 in
theorem rsnew_sound : zaq Try.prog 12 rsnewS := by
 refine zak (S := Srsnew14) (T := ty) zat ty_ok Srsnew14_ok Try.func12 (c := Try.f12.body.getD .skip) (by kernel_rfl) (by kernel_rfl) (fun xs pins hp _ => ?_)
 unfold rsnewS at hp ⊢
 split at hp
 · rename_i B xs f _
   obtain ⟨hL,es,rfl,he⟩ := hp
   rw [List.length_map] at hL
   refine ⟨by simp,?_⟩
   have hlp : (es.map bvp).length = es.length := by simp
   rw [zaz]
   unfold Try.f12
   simp only [go_sem,zaa,Nat.reduceAdd,Nat.reduceSub,Nat.reduceMul,Int.reduceToNat,reduceCtorEq,↓reduceIte,Int.reducePow,Nat.reducePow,Int.reduceMod,Nat.reduceLeDiff,Int.reduceLE,Int.reduceNe,Int.reduceEq,Nat.reduceEqDiff,Nat.reduceLT,Nat.reduceBEq,ty,Srsnew14,hlp]
   refine zas ⟨fun m σ => ∃ (i : Nat) (a : Int),m = es.length - i ∧ i ≤ es.length ∧ nwD (es.map Prod.fst) (-1) = nwD ((es.drop i).map Prod.fst) a ∧
       σ = ⟨[.agg [.w (.int .i64 B),.sg 6 (es.map bvp) f],.rf 4 2 0 0,.junk,.w (.int .i64 a),.w (.int .i64 i),.junk,.junk,.junk,.junk,.junk,.junk,.junk,.junk,.junk,.junk,.junk,.junk,.junk,.junk,.junk,.junk],[(4,.g 2 [.agg [.w (.int .i64 B),.sg 6 (es.map bvp) f]])],5⟩,?_,?_⟩
   · refine ⟨_,_,zab [0,1,2,3,4] rfl rfl rfl ?_ ?_,0,-1,rfl,by omega,by rw [List.drop_zero],rfl⟩
     · simp only [ssT,zae,zaf,setSlot,gOf,AV.ren,renL,Blk.ren,Ax.look,Ax.put,reduceCtorEq,↓reduceIte,Nat.reduceEqDiff,Nat.reduceLT,Nat.reduceAdd,List.length_append,List.length_cons,List.length_nil,Option.some.injEq]; try simp
     · simp only [ssT,zae,zaf,setSlot,gOf,AV.ren,renL,Blk.ren,Ax.look,Ax.put,reduceCtorEq,↓reduceIte,Nat.reduceEqDiff,Nat.reduceLT,Nat.reduceAdd,List.length_append,List.length_cons,List.length_nil,Option.some.injEq]
   · rintro m σ ⟨i,a,rfl,hi,hinv,rfl⟩
     have e1 : ((i : Int) + 1 + 9223372036854775808) % 18446744073709551616 - 9223372036854775808 = ((i + 1 : Nat) : Int) := by omega
     by_cases hil : i < es.length
     · have d3 : decide ((i : Int) < es.length) = true := decide_eq_true (by omega)
       have hs1 := zbb es i hil
       have m1 := he es[i] (List.getElem_mem hil)
       have hdr : es.drop i = es[i] :: es.drop (i + 1) := List.drop_eq_getElem_cons hil
       obtain ⟨P,hP⟩ : ∃ P,es[i] = P := ⟨_,rfl⟩
       rw [hP] at hs1 m1 hdr
       rw [hdr] at hinv
       obtain ⟨⟨b,c,p,e,s,rs⟩,f'⟩ := P
       have hs1 : slot (es.map bvp) i = .agg [.w (.int .i64 b),.w (.int .i64 c),.w (.int .i64 p),.w (.int .i64 e),.w (.int .i64 s),.sg 6 (rs.map rv) f'] := hs1
       simp only at m1
       have n1 : (rs.map rv).length ≤ 9223372036854775807 := by rw [List.length_map]; exact m1
       have x1 : ∃ k : List Rec,rs.map rv = k.map rv := ⟨rs,rfl⟩
       have r1 := zaj rs
       obtain ⟨W,hW⟩ : ∃ W,newI rs (-1) = W := ⟨_,rfl⟩
       have hinv : nwD (es.map Prod.fst) (-1) = nwD ((es.drop (i + 1)).map Prod.fst) (max a (newI rs (-1))) := hinv
       rw [hW] at hinv
       have em1 : (if a > W then a else W) = max a W := by split <;> omega
       have em2 : (if W > a then W else a) = max a W := by split <;> omega
       simp only [go_sem,zaa,Nat.reduceAdd,Nat.reduceSub,Nat.reduceMul,Int.reduceToNat,reduceCtorEq,↓reduceIte,Int.reducePow,Nat.reducePow,Int.reduceMod,Nat.reduceLeDiff,Int.reduceLE,Int.reduceNe,Int.reduceEq,Nat.reduceEqDiff,Nat.reduceLT,Nat.reduceBEq,ty,Srsnew14,rnewS,hlp,d3,hs1,n1,x1,r1,hW,e1,em1,em2,Int.toNat_natCast]
       repeat (refine And.intro (by omega) ?_)
       refine ⟨es.length - (i + 1),_,by omega,zab [0,1,2,3,4] rfl rfl rfl ?_ ?_,i + 1,max a W,rfl,by omega,hinv,rfl⟩
       · simp only [ssT,zae,zaf,setSlot,gOf,AV.ren,renL,Blk.ren,Ax.look,Ax.put,reduceCtorEq,↓reduceIte,Nat.reduceEqDiff,Nat.reduceLT,Nat.reduceAdd,List.length_append,List.length_cons,List.length_nil,Option.some.injEq]
       · simp only [ssT,zae,zaf,setSlot,gOf,AV.ren,renL,Blk.ren,Ax.look,Ax.put,reduceCtorEq,↓reduceIte,Nat.reduceEqDiff,Nat.reduceLT,Nat.reduceAdd,List.length_append,List.length_cons,List.length_nil,Option.some.injEq]
     · have d3 : decide ((i : Int) < es.length) = false := decide_eq_false (by omega)
       have hdr : es.drop i = [] := List.drop_eq_nil_of_le (by omega)
       rw [hdr] at hinv
       have hv2 : nwD (es.map Prod.fst) (-1) = a := hinv
       simp only [go_sem,zaa,Nat.reduceAdd,Nat.reduceSub,Nat.reduceMul,Int.reduceToNat,reduceCtorEq,↓reduceIte,Int.reducePow,Nat.reducePow,Int.reduceMod,Nat.reduceLeDiff,Int.reduceLE,Int.reduceNe,Int.reduceEq,Nat.reduceEqDiff,Nat.reduceLT,Nat.reduceBEq,ty,Srsnew14,hlp,d3,hv2]
 · exact hp.elim
set_option maxHeartbeats 2000000 in
theorem rfn14_sound : zaq Try.prog 33 zfq := by
 refine zak (S := Srfn14) (T := ty) zat ty_ok Srfn14_ok Try.func33 (c := Try.f33.body.getD .skip) (by kernel_rfl) (by kernel_rfl) (fun xs pins hp _ => ?_)
 unfold zfq at hp ⊢
 split at hp
 · rename_i n _
   obtain ⟨h0,hn⟩ := hp
   refine ⟨by simp,?_⟩
   unfold Try.f33
   have em2 : (if (1099511627776 : Int) < n then (1099511627776 : Int) else n) = n := by split <;> omega
   have em : (if n > (0 : Int) then n else (0 : Int)) = n := by split <;> omega
   have e1 : (n + 12 + 9223372036854775808) % 18446744073709551616 - 9223372036854775808 = n + 12 := by omega
   have hM : max n 0 = n := by omega
   simp only [go_sem,zaa,Nat.reduceAdd,Nat.reduceSub,Nat.reduceMul,Int.reduceToNat,reduceCtorEq,↓reduceIte,Int.reducePow,Nat.reducePow,Int.reduceMod,Nat.reduceLeDiff,Int.reduceLE,Int.reduceNe,Int.reduceEq,Nat.reduceEqDiff,Nat.reduceLT,Nat.reduceBEq,ty,Srfn14,needS,em,em2,e1,fneedJ,hM]
   omega
 · exact hp.elim
def Srsnd14 (f : FuncId) : Option zam :=
 match f with
 | 32 => some rputS4
 | 33 => some zfq
 | _ => none
theorem Srsnd14_ok : Fns Try.prog Srsnd14 := by
 intro f s h
 unfold Srsnd14 at h
 split at h
 · injection h with h; subst h; exact ⟨⟨_,Try.func32,by kernel_rfl,by kernel_rfl⟩,rput4_sound⟩
 · injection h with h; subst h; exact ⟨⟨_,Try.func33,by kernel_rfl,by kernel_rfl⟩,rfn14_sound⟩
 · cases h
set_option maxHeartbeats 2000000 in
theorem rsnd_sound : zaq Try.prog 16 rsndS := by
 refine zak (S := Srsnd14) (T := ty) zat ty_ok Srsnd14_ok Try.func16 (c := Try.f16.body.getD .skip) (by kernel_rfl) (by kernel_rfl) (fun xs pins hp _ => ?_)
 unfold rsndS at hp ⊢
 split at hp
 · rename_i b c p e s ys g _
   obtain ⟨hL,rs,rfl⟩ := hp
   rw [List.length_map] at hL
   refine ⟨by simp,?_⟩
   have n1 : (rs.map rv).length ≤ 40 := by rw [List.length_map]; exact hL
   have x1 : ∃ k : List Rec,rs.map rv = k.map rv := ⟨rs,rfl⟩
   have r1 := zaj rs
   obtain ⟨E,hE⟩ : ∃ E,batE b c p e s rs = E := ⟨_,rfl⟩
   obtain ⟨L,hLL⟩ : ∃ L,batB b c p e s rs = L := ⟨_,rfl⟩
   have hbE : bE ⟨b,c,p,e,s,rs⟩ = E := hE
   have hbB : bB ⟨b,c,p,e,s,rs⟩ = L := hLL
   rw [r1]
   unfold Try.f16
   by_cases g1 : E = 0
   · have d1 : decide (E = 0) = true := decide_eq_true g1
     have hl8 : L.length ≤ 8192 := by
       have h1 := (bE_zero (x := ⟨b,c,p,e,s,rs⟩) (hbE.trans g1)).2.2
       have h2 : L = batL b c p e s rs := by rw [← hLL]; unfold batB; rw [if_pos (hE.trans g1)]
       rw [h2]; exact h1
     have hv : ndB ⟨b,c,p,e,s,rs⟩ = fneedJ L.length := by unfold ndB; rw [hbE,if_pos g1,hbB]
     simp only [go_sem,zaa,Nat.reduceAdd,Nat.reduceSub,Nat.reduceMul,Int.reduceToNat,reduceCtorEq,↓reduceIte,Int.reducePow,Nat.reducePow,Int.reduceMod,Nat.reduceLeDiff,Int.reduceLE,Int.reduceNe,Int.reduceEq,Nat.reduceEqDiff,Nat.reduceLT,Nat.reduceBEq,ty,Srsnd14,rputS4,zfq,n1,x1,r1,hE,hLL,d1,hv,Bool.not_true]
     omega
   · have d1 : decide (E = 0) = false := decide_eq_false g1
     have hv : ndB ⟨b,c,p,e,s,rs⟩ = 0 := by unfold ndB; rw [hbE,if_neg g1]
     simp only [go_sem,zaa,Nat.reduceAdd,Nat.reduceSub,Nat.reduceMul,Int.reduceToNat,reduceCtorEq,↓reduceIte,Int.reducePow,Nat.reducePow,Int.reduceMod,Nat.reduceLeDiff,Int.reduceLE,Int.reduceNe,Int.reduceEq,Nat.reduceEqDiff,Nat.reduceLT,Nat.reduceBEq,ty,Srsnd14,rputS4,zfq,n1,x1,r1,hE,hLL,d1,hv,Bool.not_false]
 · exact hp.elim
def Srsbk14 (f : FuncId) : Option zam :=
 match f with
 | 16 => some rsndS
 | _ => none
theorem Srsbk14_ok : Fns Try.prog Srsbk14 := by
 intro f s h
 unfold Srsbk14 at h
 split at h
 · injection h with h; subst h; exact ⟨⟨_,Try.func16,by kernel_rfl,by kernel_rfl⟩,rsnd_sound⟩
 · cases h
set_option maxHeartbeats 4000000 in
theorem rsbk_sound : zaq Try.prog 14 rsbkS := by
 refine zak (S := Srsbk14) (T := ty) zat ty_ok Srsbk14_ok Try.func14 (c := Try.f14.body.getD .skip) (by kernel_rfl) (by kernel_rfl) (fun xs pins hp _ => ?_)
 unfold rsbkS at hp ⊢
 split at hp
 · rename_i B xs f _
   obtain ⟨hL,es,rfl,he⟩ := hp
   rw [List.length_map] at hL
   refine ⟨by simp,?_⟩
   have hlp : (es.map bvp).length = es.length := by simp
   rw [zaz]
   unfold Try.f14
   simp only [go_sem,zaa,Nat.reduceAdd,Nat.reduceSub,Nat.reduceMul,Int.reduceToNat,reduceCtorEq,↓reduceIte,Int.reducePow,Nat.reducePow,Int.reduceMod,Nat.reduceLeDiff,Int.reduceLE,Int.reduceNe,Int.reduceEq,Nat.reduceEqDiff,Nat.reduceLT,Nat.reduceBEq,ty,Srsbk14,hlp]
   refine zas ⟨fun m σ => ∃ (i : Nat) (a : Int),m = es.length - i ∧ i ≤ es.length ∧ (0 ≤ a ∧ a ≤ 1000 * i) ∧ ndI (es.map Prod.fst) 0 = ndI ((es.drop i).map Prod.fst) a ∧
       σ = ⟨[.agg [.w (.int .i64 B),.sg 6 (es.map bvp) f],.rf 4 2 0 0,.junk,.w (.int .i64 a),.w (.int .i64 i),.junk,.junk,.junk,.junk,.junk,.junk,.junk,.junk,.junk,.junk,.junk,.junk,.junk,.junk,.junk,.junk],[(4,.g 2 [.agg [.w (.int .i64 B),.sg 6 (es.map bvp) f]])],5⟩,?_,?_⟩
   · refine ⟨_,_,zab [0,1,2,3,4] rfl rfl rfl ?_ ?_,0,0,rfl,by omega,by omega,by rw [List.drop_zero],rfl⟩
     · simp only [ssT,zae,zaf,setSlot,gOf,AV.ren,renL,Blk.ren,Ax.look,Ax.put,reduceCtorEq,↓reduceIte,Nat.reduceEqDiff,Nat.reduceLT,Nat.reduceAdd,List.length_append,List.length_cons,List.length_nil,Option.some.injEq]; try simp
     · simp only [ssT,zae,zaf,setSlot,gOf,AV.ren,renL,Blk.ren,Ax.look,Ax.put,reduceCtorEq,↓reduceIte,Nat.reduceEqDiff,Nat.reduceLT,Nat.reduceAdd,List.length_append,List.length_cons,List.length_nil,Option.some.injEq]
   · rintro m σ ⟨i,a,rfl,hi,⟨ha0,ha1⟩,hinv,rfl⟩
     have e1 : ((i : Int) + 1 + 9223372036854775808) % 18446744073709551616 - 9223372036854775808 = ((i + 1 : Nat) : Int) := by omega
     by_cases hil : i < es.length
     · have d3 : decide ((i : Int) < es.length) = true := decide_eq_true (by omega)
       have hs1 := zbb es i hil
       have m1 := he es[i] (List.getElem_mem hil)
       have hdr : es.drop i = es[i] :: es.drop (i + 1) := List.drop_eq_getElem_cons hil
       obtain ⟨P,hP⟩ : ∃ P,es[i] = P := ⟨_,rfl⟩
       rw [hP] at hs1 m1 hdr
       rw [hdr] at hinv
       obtain ⟨⟨b,c,p,e,s,rs⟩,f'⟩ := P
       have hs1 : slot (es.map bvp) i = .agg [.w (.int .i64 b),.w (.int .i64 c),.w (.int .i64 p),.w (.int .i64 e),.w (.int .i64 s),.sg 6 (rs.map rv) f'] := hs1
       simp only at m1
       have n1 : (rs.map rv).length ≤ 40 := by rw [List.length_map]; exact m1
       have x1 : ∃ k : List Rec,rs.map rv = k.map rv := ⟨rs,rfl⟩
       have r1 := zaj rs
       have hrg := ndB_range ⟨b,c,p,e,s,rs⟩
       have hinv : ndI (es.map Prod.fst) 0 = ndI ((es.drop (i + 1)).map Prod.fst) (a + ndB ⟨b,c,p,e,s,rs⟩) := hinv
       obtain ⟨W,hW⟩ : ∃ W,ndB ⟨b,c,p,e,s,rs⟩ = W := ⟨_,rfl⟩
       rw [hW] at hinv hrg
       have e2 : (a + W + 9223372036854775808) % 18446744073709551616 - 9223372036854775808 = a + W := by omega
       simp only [go_sem,zaa,Nat.reduceAdd,Nat.reduceSub,Nat.reduceMul,Int.reduceToNat,reduceCtorEq,↓reduceIte,Int.reducePow,Nat.reducePow,Int.reduceMod,Nat.reduceLeDiff,Int.reduceLE,Int.reduceNe,Int.reduceEq,Nat.reduceEqDiff,Nat.reduceLT,Nat.reduceBEq,ty,Srsbk14,rsndS,hlp,d3,hs1,n1,x1,r1,hW,e1,e2,Int.toNat_natCast]
       repeat (refine And.intro (by omega) ?_)
       refine ⟨es.length - (i + 1),_,by omega,zab [0,1,2,3,4] rfl rfl rfl ?_ ?_,i + 1,a + W,rfl,by omega,by omega,hinv,rfl⟩
       · simp only [ssT,zae,zaf,setSlot,gOf,AV.ren,renL,Blk.ren,Ax.look,Ax.put,reduceCtorEq,↓reduceIte,Nat.reduceEqDiff,Nat.reduceLT,Nat.reduceAdd,List.length_append,List.length_cons,List.length_nil,Option.some.injEq]
       · simp only [ssT,zae,zaf,setSlot,gOf,AV.ren,renL,Blk.ren,Ax.look,Ax.put,reduceCtorEq,↓reduceIte,Nat.reduceEqDiff,Nat.reduceLT,Nat.reduceAdd,List.length_append,List.length_cons,List.length_nil,Option.some.injEq]
     · have d3 : decide ((i : Int) < es.length) = false := decide_eq_false (by omega)
       have hdr : es.drop i = [] := List.drop_eq_nil_of_le (by omega)
       rw [hdr] at hinv
       have hv2 : ndI (es.map Prod.fst) 0 = a := hinv
       simp only [go_sem,zaa,Nat.reduceAdd,Nat.reduceSub,Nat.reduceMul,Int.reduceToNat,reduceCtorEq,↓reduceIte,Int.reducePow,Nat.reducePow,Int.reduceMod,Nat.reduceLeDiff,Int.reduceLE,Int.reduceNe,Int.reduceEq,Nat.reduceEqDiff,Nat.reduceLT,Nat.reduceBEq,ty,Srsbk14,hlp,d3,hv2]
 · exact hp.elim
end
end Go.Proofs.Ytlcijldkdpmknaa
namespace Go.Proofs.Ytlcijldkdpmknaa
open Ax
abbrev KM := List (List UInt8 × Int)
def kvP (p : List UInt8 × Int) : AV × AV := (.str p.1,.w (.int .i64 p.2))
def kvA (m : KM) : List (AV × AV) := m.map kvP
def ixK (k : List UInt8) : KM → Nat → Option (Nat × Int)
 | [],_ => none
 | p :: r,i => if k = p.1 then some (i,p.2) else ixK k r (i + 1)
def gtK (m : KM) (k : List UInt8) : Option Int := (ixK k m 0).map Prod.snd
def ptK (m : KM) (k : List UInt8) (v : Int) : KM :=
 match ixK k m 0 with
 | some p => m.set p.1 (k,v)
 | none => m ++ [(k,v)]
def mpI (o : Option (Nat × Int)) : Option (Nat × AV) := o.map fun p => (p.1,.w (.int .i64 p.2))
theorem find_kvA (k : List UInt8) : ∀ (m : KM) (i : Nat),zck ty 9 (.str k) (kvA m) i = (True,mpI (ixK k m i))
 | [],i => rfl
 | p :: r,i => by
   have h := find_kvA k r (i + 1)
   have he : eqV ty 4 9 (.str k) (.str p.1) = (True,decide (k = p.1)) := rfl
   show zck ty 9 (.str k) (kvP p :: kvA r) i = _
   unfold zck
   simp only [kvP,he,h,ixK]
   by_cases hk : k = p.1
   · subst hk; simp [mpI]
   · simp [hk,mpI]
theorem put_kvA (m : KM) (k : List UInt8) (v : Int) : putM (kvA m) (.str k) (.w (.int .i64 v)) (mpI (ixK k m 0)) = kvA (ptK m k v) := by
 unfold ptK
 cases ixK k m 0 with
 | none => simp [mpI,putM,kvA,kvP]
 | some p => simp [mpI,putM,kvA,kvP,List.map_set]
end Go.Proofs.Ytlcijldkdpmknaa
namespace Go.Proofs.Ytlcijldkdpmknaa
open Ax
theorem mpI_some (p : Nat × Int) : mpI (some p) = some (p.1,.w (.int .i64 p.2)) := rfl
theorem mpI_none : mpI none = none := rfl
theorem set_kvA {m : KM} {k : List UInt8} {p : Nat × Int} (v : Int) (h : ixK k m 0 = some p) : (kvA m).set p.1 (.str k,.w (.int .i64 v)) = kvA (ptK m k v) := by
 have := put_kvA m k v
 rw [h] at this; exact this
theorem snoc_kvA {m : KM} {k : List UInt8} (v : Int) (h : ixK k m 0 = none) : kvA m ++ [(.str k,.w (.int .i64 v))] = kvA (ptK m k v) := by
 have := put_kvA m k v
 rw [h] at this; exact this
section
set_option maxRecDepth 100000
set_option maxHeartbeats 4000000 in
end
end Go.Proofs.Ytlcijldkdpmknaa
