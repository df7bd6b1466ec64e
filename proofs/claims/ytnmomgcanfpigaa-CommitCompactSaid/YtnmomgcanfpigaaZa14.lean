/- What the proofs of this seat stand on; it asks nothing. -/
import Derived.Test.YtnmomgcanfpigaaZa13
set_option linter.unusedSimpArgs false
set_option linter.unusedVariables false
namespace Go.Proofs.Ytnmomgcanfpigaa
open Ax
theorem sg_false {w : World} {loc : Ax.Loc} {v : Value} {s : Nat} (s' : Nat) {f : Bool} (h : R w loc (.sg s [] f) v) : R w loc (.sg s' [] false) v := by
 cases h with
 | sg _ _ _ a cap cs hd hs hc hl hx hh => exact .sg s' [] false a cap cs ⟨hd.le,hd.top,fun h => by cases h⟩ (by simp) hc hl hx hh
def emp6 (xs : List AV) : Bool := xs.isEmpty
theorem emp6_nil : emp6 [] = true := rfl
def cloneUS : zal
 | [.sg 6 xs f],[] => ⟨xs.length ≤ 1000000 ∧ ∃ rs : List Rec,xs = rs.map rv,bif emp6 xs then .sg 6 [] false else .ms 0 6 0 xs.length,bif emp6 xs then [] else [.g 6 xs]⟩
 | _,_ => zbg
def cloneUPl : XPlan := fun id => match id with
 | 1 => .tst [false,true]
 | _ => .std
def cloneUPl0 : XPlan := fun id => match id with
 | 1 => .tst [false,true]
 | 3 => .tst [true,false,true]
 | _ => .std
def goB (m : KM) (b now g : Int) (r : Rec) : Bool := !keptB m b r now g
def idx17S : zal
 | [.ms 0 6 0 n,.fn id [.rf 1 6 0 0,.rf 2 1 0 0,.cp [.w (.int .i64 now)],.cp [.w (.int .i64 g)]]],[.g 6 ys,.g 6 [.agg [.w (.int .i64 b),.w (.int .i64 c),.w (.int .i64 p),.w (.int .i64 e),.w (.int .i64 s),.sg 6 xs f]],.g 1 [.rf 3 0 0 0],.o (.mp es)] =>
     ⟨id = 49 ∧ (0 < n ∧ n = ys.length ∧ n ≤ 1000000) ∧ (∃ rs : List Rec,ys = rs.map rv) ∧ ∃ m,es = kvA m,.w (.int .i64 (findI (goB (es.map ukv) b now g) (ys.map rrec) 0)),[.g 6 ys,.g 6 [.agg [.w (.int .i64 b),.w (.int .i64 c),.w (.int .i64 p),.w (.int .i64 e),.w (.int .i64 s),.sg 6 xs f]],.g 1 [.rf 3 0 0 0],.o (.mp es)]⟩
 | [.sg 6 [] f0,.fn id [.rf 0 6 0 0,.rf 1 1 0 0,.cp [.w (.int .i64 now)],.cp [.w (.int .i64 g)]]],[.g 6 [.agg [.w (.int .i64 b),.w (.int .i64 c),.w (.int .i64 p),.w (.int .i64 e),.w (.int .i64 s),.sg 6 xs f]],.g 1 [.rf 2 0 0 0],.o (.mp es)] =>
     ⟨id = 49,.w (.int .i64 (-1)),[.g 6 [.agg [.w (.int .i64 b),.w (.int .i64 c),.w (.int .i64 p),.w (.int .i64 e),.w (.int .i64 s),.sg 6 xs f]],.g 1 [.rf 2 0 0 0],.o (.mp es)]⟩
 | _,_ => zbg
def Ogo17 (f : FuncId) : Option zal :=
 match f with
 | 49 => some goes17S
 | _ => none
theorem Ogo17_ok : FnsO Try.prog Ogo17 := by
 intro f s h
 unfold Ogo17 at h
 split at h
 · injection h with h; subst h; exact ⟨⟨_,Try.func49,by kernel_rfl,by kernel_rfl⟩,goes17_sound⟩
 · cases h
def zeh : XPlan := fun id => match id with
 | 4 => .opn [] 5
 | _ => .std
section
set_option maxRecDepth 100000
set_option maxHeartbeats 1000000 in
theorem cloneU_sound : zbb Try.prog 52 cloneUS := by
 refine fn_soundOK (S := noS) (SO := noO) (T := ty) zbf ty_ok zbs noO_ok Try.func52 (c := Try.f52.body.getD .skip) (by kernel_rfl) (fun xs pins hp _ => ?_)
 unfold cloneUS at hp ⊢
 split at hp
 · rename_i xs f _
   obtain ⟨hL,rs,rfl⟩ := hp
   rw [List.length_map] at hL
   have hl4 : (rs.map rv).length = rs.length := by simp
   by_cases hz : rs.length = 0
   · obtain rfl : rs = [] := List.eq_nil_of_length_eq_zero hz
     refine ⟨by simp,cloneUPl0,by kernel_rfl,?_⟩
     unfold Try.f52
     simp only [go_sem,zab,Nat.reduceAdd,Nat.reduceSub,Nat.reduceMul,Int.reduceToNat,reduceCtorEq,↓reduceIte,Int.reducePow,Nat.reducePow,Int.reduceMod,Nat.reduceLeDiff,Int.reduceLE,Int.reduceNe,Int.reduceEq,Nat.reduceEqDiff,Nat.reduceLT,Nat.reduceBEq,List.map_cons,List.map_nil,List.toList_toArray,Array.toList_append,Option.toArray_some,Option.toArray_none,Bool.and_self,ty,noS,cloneUPl0,specOp,hl4]
     repeat (refine And.intro (by omega) ?_)
     intro b
     refine ⟨fun hb => ?_,fun hb => ?_⟩
     · refine ⟨_,zdc 2 (.sg 6 [] false) (fun w loc v h => sg_false 6 h),?_⟩
       simp only [go_sem,zab,Nat.reduceAdd,Nat.reduceSub,Nat.reduceMul,Int.reduceToNat,reduceCtorEq,↓reduceIte,Int.reducePow,Nat.reducePow,Int.reduceMod,Nat.reduceLeDiff,Int.reduceLE,Int.reduceNe,Int.reduceEq,Nat.reduceEqDiff,Nat.reduceLT,Nat.reduceBEq,List.map_cons,List.map_nil,List.toList_toArray,Array.toList_append,Option.toArray_some,Option.toArray_none,Bool.and_self,ty,noS,emp6_nil,cond_true,cond_false]
     · refine ⟨_,zdc 2 (.sg 6 [] false) (fun w loc v h => sg_false 6 h),?_⟩
       simp only [go_sem,zab,Nat.reduceAdd,Nat.reduceSub,Nat.reduceMul,Int.reduceToNat,reduceCtorEq,↓reduceIte,Int.reducePow,Nat.reducePow,Int.reduceMod,Nat.reduceLeDiff,Int.reduceLE,Int.reduceNe,Int.reduceEq,Nat.reduceEqDiff,Nat.reduceLT,Nat.reduceBEq,List.map_cons,List.map_nil,List.toList_toArray,Array.toList_append,Option.toArray_some,Option.toArray_none,Bool.and_self,ty,noS,emp6_nil,cond_true,cond_false]
   · refine ⟨by simp,cloneUPl,by kernel_rfl,?_⟩
     have hem : emp6 (rs.map rv) = false := by cases rs with | nil => simp at hz | cons _ _ => rfl
     have htop : rs.length ≤ top := by unfold top; omega
     unfold Try.f52
     simp only [go_sem,zab,Nat.reduceAdd,Nat.reduceSub,Nat.reduceMul,Int.reduceToNat,reduceCtorEq,↓reduceIte,Int.reducePow,Nat.reducePow,Int.reduceMod,Nat.reduceLeDiff,Int.reduceLE,Int.reduceNe,Int.reduceEq,Nat.reduceEqDiff,Nat.reduceLT,Nat.reduceBEq,List.map_cons,List.map_nil,List.toList_toArray,Array.toList_append,Option.toArray_some,Option.toArray_none,Bool.and_self,ty,noS,cloneUPl,specOp,hl4]
     repeat (refine And.intro (by omega) ?_)
     intro b hb
     obtain rfl : b = false := by cases b with | false => rfl | true => exact absurd (hb rfl) hz
     simp only [go_sem,zab,Nat.reduceAdd,Nat.reduceSub,Nat.reduceMul,Int.reduceToNat,reduceCtorEq,↓reduceIte,Int.reducePow,Nat.reducePow,Int.reduceMod,Nat.reduceLeDiff,Int.reduceLE,Int.reduceNe,Int.reduceEq,Nat.reduceEqDiff,Nat.reduceLT,Nat.reduceBEq,List.map_cons,List.map_nil,List.toList_toArray,Array.toList_append,Option.toArray_some,Option.toArray_none,Bool.and_self,ty,noS,cloneUPl,specOp,hl4,hem,cond_false]
     refine ⟨htop,_,Weak.refl _,?_⟩
     simp only [go_sem,zab,Nat.reduceAdd,Nat.reduceSub,Nat.reduceMul,Int.reduceToNat,reduceCtorEq,↓reduceIte,Int.reducePow,Nat.reducePow,Int.reduceMod,Nat.reduceLeDiff,Int.reduceLE,Int.reduceNe,Int.reduceEq,Nat.reduceEqDiff,Nat.reduceLT,Nat.reduceBEq,List.map_cons,List.map_nil,List.toList_toArray,Array.toList_append,Option.toArray_some,Option.toArray_none,Bool.and_self,ty,noS,hl4,hem,cond_false,zav]
 · exact hp.elim
set_option maxHeartbeats 2000000 in
theorem idx17_sound : SoundO Try.prog 72 idx17S := by
 refine fn_soundO (S := noS) (SO := Ogo17) (T := ty) zbf ty_ok zbs Ogo17_ok Try.func72 (c := Try.f72.body.getD .skip) (by kernel_rfl) (fun xs pins hp => ?_)
 unfold idx17S at hp ⊢
 split at hp
 · rename_i n id now g ys b c p e s xs f es
   obtain ⟨rfl,⟨hn,rfl,hL⟩,⟨rs,rfl⟩,hm⟩ := hp
   obtain ⟨M,hM⟩ : ∃ M,es.map ukv = M := ⟨_,rfl⟩
   rw [List.length_map] at hL hn
   refine ⟨by simp,zeh,by kernel_rfl,?_⟩
   have hl4 : (rs.map rv).length = rs.length := by simp
   have dpos : decide (0 < rs.length) = true := decide_eq_true hn
   obtain ⟨A,hA⟩ : ∃ A,goB M b now g = A := ⟨_,rfl⟩
   unfold Try.f72
   simp only [go_sem,zab,Nat.reduceAdd,Nat.reduceSub,Nat.reduceMul,Int.reduceToNat,reduceCtorEq,↓reduceIte,Int.reducePow,Nat.reducePow,Int.reduceMod,Nat.reduceLeDiff,Int.reduceLE,Int.reduceNe,Int.reduceEq,Nat.reduceEqDiff,Nat.reduceLT,Nat.reduceBEq,List.map_cons,List.map_nil,List.toList_toArray,Array.toList_append,Option.toArray_some,Option.toArray_none,Bool.and_self,ty,noS,Ogo17,zeh,hl4,zay,hM,hA]
   refine zez ⟨fun m σ => ∃ i : Nat,m = rs.length - i ∧ i ≤ rs.length ∧ findI A rs 0 = findI A (rs.drop i) i ∧
       σ = ⟨[.ms 0 6 0 rs.length,.fn 49 [.rf 1 6 0 0,.rf 2 1 0 0,.cp [.w (.int .i64 now)],.cp [.w (.int .i64 g)]],.junk,.junk,.junk,.junk,.junk,.w (.int .i64 rs.length),.w (.int .i64 i),.junk,.junk,.junk,.junk,.junk,.junk,.junk,.junk,.junk,.junk],
         [(0,.g 6 (rs.map rv)),(1,.g 6 [.agg [.w (.int .i64 b),.w (.int .i64 c),.w (.int .i64 p),.w (.int .i64 e),.w (.int .i64 s),.sg 6 xs f]]),(2,.g 1 [.rf 3 0 0 0]),(3,.o (.mp es))],4⟩,?_,?_⟩
   · refine ⟨_,_,zaf [0,1,2,3] rfl rfl rfl ?_ ?_,0,rfl,by omega,by rw [List.drop_zero]; rfl,rfl⟩
     · simp only [ssT,zah,zai,setSlot,gOf,AV.ren,renL,Blk.ren,Ax.look,Ax.put,reduceCtorEq,↓reduceIte,Nat.reduceEqDiff,Nat.reduceLT,Nat.reduceAdd,List.length_append,List.length_cons,List.length_nil,Option.some.injEq]; try simp
     · simp only [ssT,zah,zai,setSlot,gOf,AV.ren,renL,Blk.ren,Ax.look,Ax.put,reduceCtorEq,↓reduceIte,Nat.reduceEqDiff,Nat.reduceLT,Nat.reduceAdd,List.length_append,List.length_cons,List.length_nil,Option.some.injEq,zce]
   · rintro m σ ⟨i,rfl,hi,hinv,rfl⟩
     by_cases hil : i < rs.length
     · have e1 : ((i : Int) + 1 + 9223372036854775808) % 18446744073709551616 - 9223372036854775808 = ((i + 1 : Nat) : Int) := by omega
       have d1 : decide ((i : Int) < rs.length) = true := decide_eq_true (by omega)
       have hs1 := zfl rv rs i hil
       have hdr : rs.drop i = rs[i] :: rs.drop (i + 1) := List.drop_eq_getElem_cons hil
       obtain ⟨P,hP⟩ : ∃ P,rs[i] = P := ⟨_,rfl⟩
       rw [hP] at hs1 hdr
       simp only [rv] at hs1
       rw [hdr] at hinv
       obtain ⟨d,t,k,key,dd,val⟩ := P
       have hAP : (!keptB M b ⟨d,t,k,key,dd,val⟩ now g) = A ⟨d,t,k,key,dd,val⟩ := by rw [← hA]; rfl
       cases hap : A ⟨d,t,k,key,dd,val⟩ with
       | true =>
         have hv : findI A rs 0 = i := by rw [hinv]; unfold findI; rw [if_pos hap]
         simp only [go_sem,zab,Nat.reduceAdd,Nat.reduceSub,Nat.reduceMul,Int.reduceToNat,reduceCtorEq,↓reduceIte,Int.reducePow,Nat.reducePow,Int.reduceMod,Nat.reduceLeDiff,Int.reduceLE,Int.reduceNe,Int.reduceEq,Nat.reduceEqDiff,Nat.reduceLT,Nat.reduceBEq,List.map_cons,List.map_nil,List.toList_toArray,Array.toList_append,Option.toArray_some,Option.toArray_none,Bool.and_self,ty,noS,Ogo17,zeh,goes17S,hl4,dpos,hn,d1,hs1,hm,hM,hAP,hap,hv,zay,hA,Int.toNat_natCast]
         repeat (refine And.intro (by omega) ?_)
         refine ⟨_,Weak.refl _,?_⟩
         simp only [go_sem,zab,Nat.reduceAdd,Nat.reduceSub,Nat.reduceMul,Int.reduceToNat,reduceCtorEq,↓reduceIte,Int.reducePow,Nat.reducePow,Int.reduceMod,Nat.reduceLeDiff,Int.reduceLE,Int.reduceNe,Int.reduceEq,Nat.reduceEqDiff,Nat.reduceLT,Nat.reduceBEq,List.map_cons,List.map_nil,List.toList_toArray,Array.toList_append,Option.toArray_some,Option.toArray_none,Bool.and_self,ty,noS,zeh,hl4,dpos,hn,hv,zay,hA,zav,cond_true,zce]
         refine ⟨_,Weak.refl _,?_⟩
         simp only [go_sem,zab,Nat.reduceAdd,Nat.reduceSub,Nat.reduceMul,Int.reduceToNat,reduceCtorEq,↓reduceIte,Int.reducePow,Nat.reducePow,Int.reduceMod,Nat.reduceLeDiff,Int.reduceLE,Int.reduceNe,Int.reduceEq,Nat.reduceEqDiff,Nat.reduceLT,Nat.reduceBEq,List.map_cons,List.map_nil,List.toList_toArray,Array.toList_append,Option.toArray_some,Option.toArray_none,Bool.and_self,ty,noS,zeh,hl4,dpos,hn,hv,zay,hA,zav,cond_true,zce]
       | false =>
         have hv : findI A rs 0 = findI A (rs.drop (i + 1)) ((i + 1 : Nat) : Int) := by
           rw [hinv]; rw [findI,hap]; simp
         simp only [go_sem,zab,Nat.reduceAdd,Nat.reduceSub,Nat.reduceMul,Int.reduceToNat,reduceCtorEq,↓reduceIte,Int.reducePow,Nat.reducePow,Int.reduceMod,Nat.reduceLeDiff,Int.reduceLE,Int.reduceNe,Int.reduceEq,Nat.reduceEqDiff,Nat.reduceLT,Nat.reduceBEq,List.map_cons,List.map_nil,List.toList_toArray,Array.toList_append,Option.toArray_some,Option.toArray_none,Bool.and_self,ty,noS,Ogo17,zeh,goes17S,hl4,dpos,hn,d1,hs1,hm,hM,hAP,hap,e1,Int.toNat_natCast]
         repeat (refine And.intro (by omega) ?_)
         refine ⟨rs.length - (i + 1),_,by omega,zaf [0,1,2,3] rfl rfl rfl ?_ ?_,i + 1,rfl,by omega,hv,rfl⟩
         · simp only [ssT,zah,zai,setSlot,gOf,AV.ren,renL,Blk.ren,Ax.look,Ax.put,reduceCtorEq,↓reduceIte,Nat.reduceEqDiff,Nat.reduceLT,Nat.reduceAdd,List.length_append,List.length_cons,List.length_nil,Option.some.injEq]
         · simp only [ssT,zah,zai,setSlot,gOf,AV.ren,renL,Blk.ren,Ax.look,Ax.put,reduceCtorEq,↓reduceIte,Nat.reduceEqDiff,Nat.reduceLT,Nat.reduceAdd,List.length_append,List.length_cons,List.length_nil,Option.some.injEq,zce]
     · have d1 : decide ((i : Int) < rs.length) = false := decide_eq_false (by omega)
       have hdr : rs.drop i = [] := List.drop_eq_nil_of_le (by omega)
       rw [hdr] at hinv
       have hv : findI A rs 0 = -1 := hinv
       simp only [go_sem,zab,Nat.reduceAdd,Nat.reduceSub,Nat.reduceMul,Int.reduceToNat,reduceCtorEq,↓reduceIte,Int.reducePow,Nat.reducePow,Int.reduceMod,Nat.reduceLeDiff,Int.reduceLE,Int.reduceNe,Int.reduceEq,Nat.reduceEqDiff,Nat.reduceLT,Nat.reduceBEq,List.map_cons,List.map_nil,List.toList_toArray,Array.toList_append,Option.toArray_some,Option.toArray_none,Bool.and_self,ty,noS,Ogo17,zeh,hl4,d1,hv,zay,hA]
       refine ⟨_,Weak.refl _,?_⟩
       simp only [go_sem,zab,Nat.reduceAdd,Nat.reduceSub,Nat.reduceMul,Int.reduceToNat,reduceCtorEq,↓reduceIte,Int.reducePow,Nat.reducePow,Int.reduceMod,Nat.reduceLeDiff,Int.reduceLE,Int.reduceNe,Int.reduceEq,Nat.reduceEqDiff,Nat.reduceLT,Nat.reduceBEq,List.map_cons,List.map_nil,List.toList_toArray,Array.toList_append,Option.toArray_some,Option.toArray_none,Bool.and_self,ty,noS,zeh,hl4,dpos,hn,hv,zay,hA,zav,cond_true,zce]
       refine ⟨_,Weak.refl _,?_⟩
       simp only [go_sem,zab,Nat.reduceAdd,Nat.reduceSub,Nat.reduceMul,Int.reduceToNat,reduceCtorEq,↓reduceIte,Int.reducePow,Nat.reducePow,Int.reduceMod,Nat.reduceLeDiff,Int.reduceLE,Int.reduceNe,Int.reduceEq,Nat.reduceEqDiff,Nat.reduceLT,Nat.reduceBEq,List.map_cons,List.map_nil,List.toList_toArray,Array.toList_append,Option.toArray_some,Option.toArray_none,Bool.and_self,ty,noS,zeh,hl4,dpos,hn,hv,zay,hA,zav,cond_true,zce]
 · rename_i f0 id now g b c p e s xs f es
   obtain rfl := hp
   refine ⟨by simp,zeh,by kernel_rfl,?_⟩
   have z0 : decide ((0 : Int) < ((0 : Nat) : Int)) = false := rfl
   unfold Try.f72
   simp only [go_sem,zab,Nat.reduceAdd,Nat.reduceSub,Nat.reduceMul,Int.reduceToNat,reduceCtorEq,↓reduceIte,Int.reducePow,Nat.reducePow,Int.reduceMod,Nat.reduceLeDiff,Int.reduceLE,Int.reduceNe,Int.reduceEq,Nat.reduceEqDiff,Nat.reduceLT,Nat.reduceBEq,List.map_cons,List.map_nil,List.toList_toArray,Array.toList_append,Option.toArray_some,Option.toArray_none,Bool.and_self,ty,noS,Ogo17,zeh]
   refine awpO_unr 1 ?_
   simp only [go_sem,zab,Nat.reduceAdd,Nat.reduceSub,Nat.reduceMul,Int.reduceToNat,reduceCtorEq,↓reduceIte,Int.reducePow,Nat.reducePow,Int.reduceMod,Nat.reduceLeDiff,Int.reduceLE,Int.reduceNe,Int.reduceEq,Nat.reduceEqDiff,Nat.reduceLT,Nat.reduceBEq,List.map_cons,List.map_nil,List.toList_toArray,Array.toList_append,Option.toArray_some,Option.toArray_none,Bool.and_self,ty,noS,Ogo17,zeh,z0,unrO_go,unK_normal,unK_exit,unK_ret]
   try refine ⟨_,Weak.refl _,?_⟩
   try simp only [go_sem,zab,Nat.reduceAdd,Nat.reduceSub,Nat.reduceMul,Int.reduceToNat,reduceCtorEq,↓reduceIte,Int.reducePow,Nat.reducePow,Int.reduceMod,Nat.reduceLeDiff,Int.reduceLE,Int.reduceNe,Int.reduceEq,Nat.reduceEqDiff,Nat.reduceLT,Nat.reduceBEq,List.map_cons,List.map_nil,List.toList_toArray,Array.toList_append,Option.toArray_some,Option.toArray_none,Bool.and_self,ty,noS]
 · exact hp.elim
end
end Go.Proofs.Ytnmomgcanfpigaa
namespace Go.Proofs.Ytnmomgcanfpigaa
open Ax
theorem findI_tells (A : Rec → Bool) : ∀ (rs : List Rec) (k : Int),(findI A rs k = -1 ∧ rs.filter (fun r => !A r) = rs) ∨ ∃ (i : Nat) (h : i < rs.length),findI A rs k = k + i ∧ (rs.take i).filter (fun r => !A r) = rs.take i ∧ A rs[i] = true
 | [],_ => .inl ⟨rfl,rfl⟩
 | r :: rs,k => by
   unfold findI
   cases h : A r with
   | true => exact .inr ⟨0,by simp,by simp,by simp,h⟩
   | false =>
     rcases findI_tells A rs (k + 1) with ⟨h1,h2⟩ | ⟨i,hi,h1,h2,h3⟩
     · refine .inl ⟨by simpa using h1,?_⟩
       rw [List.filter_cons,h]
       simp only [Bool.not_false,if_true,h2]
     · refine .inr ⟨i + 1,by simp; omega,?_,?_,by simpa using h3⟩
       · simp only [Bool.false_eq_true,if_false]; rw [h1]; omega
       · rw [List.take_succ_cons,List.filter_cons,h]
         simp only [Bool.not_false,if_true,h2]
theorem setSlot_rv (r : Rec) : ∀ (cs : List Rec) (w : Nat),w < cs.length → setSlot (cs.map rv) w (rv r) = (cs.set w r).map rv
 | x :: cs,0,_ => rfl
 | x :: cs,w + 1,h => by
   show rv x :: setSlot (cs.map rv) w (rv r) = rv x :: (cs.set w r).map rv
   rw [setSlot_rv r cs w (by simpa using h)]
def zR : Rec := ⟨0,0,false,[],false,[]⟩
def del17S : zal
 | [.ms 0 6 0 n,.fn id [.rf 1 6 0 0,.rf 2 1 0 0,.cp [.w (.int .i64 now)],.cp [.w (.int .i64 g)]]],[.g 6 ys,.g 6 [.agg [.w (.int .i64 b),.w (.int .i64 c),.w (.int .i64 p),.w (.int .i64 e),.w (.int .i64 s),.sg 6 xs f]],.g 1 [.rf 3 0 0 0],.o (.mp es)] =>
     ⟨id = 49 ∧ (0 < n ∧ n = ys.length ∧ n ≤ 1000000) ∧ (∃ rs : List Rec,ys = rs.map rv) ∧ ∃ m,es = kvA m,.sg 6 (((ys.map rrec).filter (fun r => !goB (es.map ukv) b now g r)).map rv) false,[gone,.g 6 [.agg [.w (.int .i64 b),.w (.int .i64 c),.w (.int .i64 p),.w (.int .i64 e),.w (.int .i64 s),.sg 6 xs f]],.g 1 [.rf 3 0 0 0],.o (.mp es)]⟩
 | [.sg 6 [] f0,.fn id [.rf 0 6 0 0,.rf 1 1 0 0,.cp [.w (.int .i64 now)],.cp [.w (.int .i64 g)]]],[.g 6 [.agg [.w (.int .i64 b),.w (.int .i64 c),.w (.int .i64 p),.w (.int .i64 e),.w (.int .i64 s),.sg 6 xs f]],.g 1 [.rf 2 0 0 0],.o (.mp es)] =>
     ⟨id = 49,.sg 6 [] f0,[.g 6 [.agg [.w (.int .i64 b),.w (.int .i64 c),.w (.int .i64 p),.w (.int .i64 e),.w (.int .i64 s),.sg 6 xs f]],.g 1 [.rf 2 0 0 0],.o (.mp es)]⟩
 | _,_ => zbg
def Odel17 (f : FuncId) : Option zal :=
 match f with
 | 49 => some goes17S
 | 72 => some idx17S
 | _ => none
theorem Odel17_ok : FnsO Try.prog Odel17 := by
 intro f s h
 unfold Odel17 at h
 split at h
 · injection h with h; subst h; exact ⟨⟨_,Try.func49,by kernel_rfl,by kernel_rfl⟩,goes17_sound⟩
 · injection h with h; subst h; exact ⟨⟨_,Try.func72,by kernel_rfl,by kernel_rfl⟩,idx17_sound⟩
 · cases h
def del17Pl : XPlan := fun id => match id with
 | 1 => .opn [] 2
 | 8 => .opn [] 2
 | _ => .std
section
set_option maxRecDepth 100000
set_option maxHeartbeats 4000000 in
theorem del17_sound : SoundO Try.prog 51 del17S := by
 refine fn_soundO (S := noS) (SO := Odel17) (T := ty) zbf ty_ok zbs Odel17_ok Try.func51 (c := Try.f51.body.getD .skip) (by kernel_rfl) (fun xs pins hp => ?_)
 unfold del17S at hp ⊢
 split at hp
 · rename_i n id now g ys b c p e s xs f es
   obtain ⟨rfl,⟨hn,rfl,hL⟩,⟨rs,rfl⟩,hm⟩ := hp
   obtain ⟨M,hM⟩ : ∃ M,es.map ukv = M := ⟨_,rfl⟩
   rw [List.length_map] at hL hn
   refine ⟨by simp,del17Pl,by kernel_rfl,?_⟩
   have hl4 : (rs.map rv).length = rs.length := by simp
   have dpos : decide (0 < rs.length) = true := decide_eq_true hn
   have hx : ∃ qs : List Rec,rs.map rv = qs.map rv := ⟨rs,rfl⟩
   obtain ⟨A,hA⟩ : ∃ A,goB M b now g = A := ⟨_,rfl⟩
   have hA2 : ∀ r,(!keptB M b r now g) = A r := fun r => by rw [← hA]; rfl
   have hA3 : (fun r => !goB M b now g r) = fun r => !A r := by rw [hA]
   rw [hM,zay,hA3]
   obtain ⟨K,hK⟩ : ∃ K,(fun r => !A r) = K := ⟨_,rfl⟩
   have hKA : ∀ r,K r = !A r := fun r => by rw [← hK]
   have D := findI_tells A rs 0
   rw [hK] at D ⊢
   unfold Try.f51
   rcases D with ⟨hF,hfl⟩ | ⟨i,hi,hF,htk,hAi⟩
   · have dF : decide (findI A rs 0 = -1) = true := decide_eq_true hF
     simp only [go_sem,zab,Nat.reduceAdd,Nat.reduceSub,Nat.reduceMul,Int.reduceToNat,reduceCtorEq,↓reduceIte,Int.reducePow,Nat.reducePow,Int.reduceMod,Nat.reduceLeDiff,Int.reduceLE,Int.reduceNe,Int.reduceEq,Nat.reduceEqDiff,Nat.reduceLT,Nat.reduceBEq,List.map_cons,List.map_nil,List.toList_toArray,Array.toList_append,Option.toArray_some,Option.toArray_none,Bool.and_self,ty,noS,Odel17,del17Pl,zav,zce,cond_true,idx17S,hl4,dpos,hn,hx,hm,hM,zay,hA,dF,hfl]
     repeat (refine And.intro (by omega) ?_)
     have hdle : decide (0 + rs.length ≤ (rs.map rv).length) = true := decide_eq_true (by simp)
     have htk : (rs.map rv).take rs.length = rs.map rv := List.take_of_length_le (by simp)
     refine ⟨_,weak_fg 0 6 4 (rs.map rv) rfl (zav rs) (by simp [slot,AV.ids]),?_⟩
     simp only [fgL,fgH,AV.fg,Blk.fg,Nat.reduceBEq,cond_true,cond_false,hdle,Bool.and_true,beq_self_eq_true,Bool.true_and,List.drop_zero,htk]
     simp only [go_sem,zab,Nat.reduceAdd,Nat.reduceSub,Nat.reduceMul,Int.reduceToNat,reduceCtorEq,↓reduceIte,Int.reducePow,Nat.reducePow,Int.reduceMod,Nat.reduceLeDiff,Int.reduceLE,Int.reduceNe,Int.reduceEq,Nat.reduceEqDiff,Nat.reduceLT,Nat.reduceBEq,List.map_cons,List.map_nil,List.toList_toArray,Array.toList_append,Option.toArray_some,Option.toArray_none,Bool.and_self,ty,noS,hfl,zay,zav,zce,cond_true]
   · have hF : findI A rs 0 = (i : Int) := by rw [hF]; omega
     have dF : decide ((i : Int) = -1) = false := decide_eq_false (by omega)
     have e0 : ((i : Int) + 1 + 9223372036854775808) % 18446744073709551616 - 9223372036854775808 = ((i + 1 : Nat) : Int) := by omega
     simp only [go_sem,zab,Nat.reduceAdd,Nat.reduceSub,Nat.reduceMul,Int.reduceToNat,reduceCtorEq,↓reduceIte,Int.reducePow,Nat.reducePow,Int.reduceMod,Nat.reduceLeDiff,Int.reduceLE,Int.reduceNe,Int.reduceEq,Nat.reduceEqDiff,Nat.reduceLT,Nat.reduceBEq,List.map_cons,List.map_nil,List.toList_toArray,Array.toList_append,Option.toArray_some,Option.toArray_none,Bool.and_self,ty,noS,Odel17,del17Pl,zav,zce,cond_true,idx17S,hl4,dpos,hn,hx,hm,hM,zay,hA,hF,dF,e0]
     repeat (refine And.intro (by omega) ?_)
     refine zez ⟨fun m σ => ∃ (j w : Nat) (cs : List Rec),m = rs.length - j ∧ (w < j ∧ j ≤ rs.length) ∧ cs.length = rs.length ∧ cs.take w = (rs.take j).filter K ∧ cs.drop j = rs.drop j ∧
         σ = ⟨[.ms 0 6 0 rs.length,.fn 49 [.rf 1 6 0 0,.rf 2 1 0 0,.cp [.w (.int .i64 now)],.cp [.w (.int .i64 g)]],.junk,.junk,.junk,.w (.int .i64 w),.w (.int .i64 j),.junk,.junk,.junk,.junk,.junk,.junk,.junk,.junk,.junk,.junk,.junk,.junk,.junk,.junk,.junk,.junk,.junk,.junk,.junk,.junk,.junk,.junk,.junk,.junk,.junk,.junk,.junk,.junk,.junk,.junk,.junk,.junk,.junk,.junk,.junk],
           [(0,.g 6 (cs.map rv)),(1,.g 6 [.agg [.w (.int .i64 b),.w (.int .i64 c),.w (.int .i64 p),.w (.int .i64 e),.w (.int .i64 s),.sg 6 xs f]]),(2,.g 1 [.rf 3 0 0 0]),(3,.o (.mp es))],4⟩,?_,?_⟩
     · refine ⟨_,_,zaf [0,1,2,3] rfl rfl rfl ?_ ?_,i + 1,i,rs,rfl,by omega,rfl,?_,rfl,rfl⟩
       · simp only [ssT,zah,zai,setSlot,gOf,AV.ren,renL,Blk.ren,Ax.look,Ax.put,reduceCtorEq,↓reduceIte,Nat.reduceEqDiff,Nat.reduceLT,Nat.reduceAdd,List.length_append,List.length_cons,List.length_nil,Option.some.injEq]; try simp
       · simp only [ssT,zah,zai,setSlot,gOf,AV.ren,renL,Blk.ren,Ax.look,Ax.put,reduceCtorEq,↓reduceIte,Nat.reduceEqDiff,Nat.reduceLT,Nat.reduceAdd,List.length_append,List.length_cons,List.length_nil,Option.some.injEq,zce]
       · rw [List.take_succ_eq_append_getElem hi,List.filter_append,htk]
         simp [hKA,hAi]
     · rintro m σ ⟨j,w,cs,rfl,⟨hwj,hj⟩,hcl,htw,hdj,rfl⟩
       have hl5 : (cs.map rv).length = rs.length := by simp [hcl]
       by_cases hjl : j < rs.length
       · have e1 : ((j : Int) + 1 + 9223372036854775808) % 18446744073709551616 - 9223372036854775808 = ((j + 1 : Nat) : Int) := by omega
         have e2 : ((w : Int) + 1 + 9223372036854775808) % 18446744073709551616 - 9223372036854775808 = ((w + 1 : Nat) : Int) := by omega
         have d1 : decide ((j : Int) < rs.length) = true := decide_eq_true (by omega)
         have hjc : j < cs.length := by omega
         have hcj : cs[j] = rs[j] := by
           have h1 : cs.drop j = cs[j] :: cs.drop (j + 1) := List.drop_eq_getElem_cons hjc
           have h2 : rs.drop j = rs[j] :: rs.drop (j + 1) := List.drop_eq_getElem_cons hjl
           rw [h1,h2] at hdj
           injection hdj
         have hs1 := zfl rv cs j hjc
         rw [hcj] at hs1
         have htk1 : (rs.take (j + 1)).filter K = (rs.take j).filter K ++ [rs[j]].filter K := by rw [List.take_succ_eq_append_getElem hjl,List.filter_append]
         have hdj1 : cs.drop (j + 1) = rs.drop (j + 1) := by
           have := congrArg (List.drop 1) hdj
           simpa [List.drop_drop,Nat.add_comm] using this
         obtain ⟨P,hP⟩ : ∃ P,rs[j] = P := ⟨_,rfl⟩
         rw [hP] at hs1 htk1
         simp only [rv] at hs1
         obtain ⟨d,t,k,key,dd,val⟩ := P
         have hAP := hA2 ⟨d,t,k,key,dd,val⟩
         have hKP := hKA ⟨d,t,k,key,dd,val⟩
         cases hap : A ⟨d,t,k,key,dd,val⟩ with
         | true =>
           rw [hap] at hKP
           have hf0 : (rs.take (j + 1)).filter K = (rs.take j).filter K := by rw [htk1]; simp [hKP]
           simp only [go_sem,zab,Nat.reduceAdd,Nat.reduceSub,Nat.reduceMul,Int.reduceToNat,reduceCtorEq,↓reduceIte,Int.reducePow,Nat.reducePow,Int.reduceMod,Nat.reduceLeDiff,Int.reduceLE,Int.reduceNe,Int.reduceEq,Nat.reduceEqDiff,Nat.reduceLT,Nat.reduceBEq,List.map_cons,List.map_nil,List.toList_toArray,Array.toList_append,Option.toArray_some,Option.toArray_none,Bool.and_self,ty,noS,Odel17,del17Pl,zav,zce,cond_true,goes17S,hl4,hl5,dpos,hn,d1,hs1,hm,hM,hAP,hap,e1,e2,Int.toNat_natCast,Bool.not_true]
           repeat (refine And.intro (by omega) ?_)
           refine ⟨rs.length - (j + 1),_,by omega,zaf [0,1,2,3] rfl rfl rfl ?_ ?_,j + 1,w,cs,rfl,by omega,hcl,by rw [hf0]; exact htw,hdj1,rfl⟩
           · simp only [ssT,zah,zai,setSlot,gOf,AV.ren,renL,Blk.ren,Ax.look,Ax.put,reduceCtorEq,↓reduceIte,Nat.reduceEqDiff,Nat.reduceLT,Nat.reduceAdd,List.length_append,List.length_cons,List.length_nil,Option.some.injEq]
           · simp only [ssT,zah,zai,setSlot,gOf,AV.ren,renL,Blk.ren,Ax.look,Ax.put,reduceCtorEq,↓reduceIte,Nat.reduceEqDiff,Nat.reduceLT,Nat.reduceAdd,List.length_append,List.length_cons,List.length_nil,Option.some.injEq,zce]
         | false =>
           rw [hap] at hKP
           have hwc : w < cs.length := by omega
           have hs2 := zfl rv cs w hwc
           simp only [rv] at hs2
           have hd6 : ∀ a b c d e f : AV,List.drop 6 [a,b,c,d,e,f] = [] := fun _ _ _ _ _ _ => rfl
           have hl6 : ∀ a b c d e f : AV,[a,b,c,d,e,f].length = 6 := fun _ _ _ _ _ _ => rfl
           have hss := setSlot_rv ⟨d,t,k,key,dd,val⟩ cs w hwc
           simp only [rv] at hss
           have hf0 : (cs.set w ⟨d,t,k,key,dd,val⟩).take (w + 1) = (rs.take (j + 1)).filter K := by
             rw [htk1,← htw,List.take_succ_eq_append_getElem (by simp; exact hwc),List.take_set_of_le (Nat.le_refl _)]
             simp [hKP]
           have hd0 : (cs.set w ⟨d,t,k,key,dd,val⟩).drop (j + 1) = rs.drop (j + 1) := by
             rw [List.drop_set_of_lt (by omega)]; exact hdj1
           simp only [go_sem,zab,Nat.reduceAdd,Nat.reduceSub,Nat.reduceMul,Int.reduceToNat,reduceCtorEq,↓reduceIte,Int.reducePow,Nat.reducePow,Int.reduceMod,Nat.reduceLeDiff,Int.reduceLE,Int.reduceNe,Int.reduceEq,Nat.reduceEqDiff,Nat.reduceLT,Nat.reduceBEq,List.map_cons,List.map_nil,List.toList_toArray,Array.toList_append,Option.toArray_some,Option.toArray_none,Bool.and_self,ty,noS,Odel17,del17Pl,zav,zce,cond_true,goes17S,hl4,hl5,dpos,hn,d1,hs1,hs2,hd6,hl6,hss,hm,hM,hAP,hap,e1,e2,Int.toNat_natCast,Bool.not_false]
           repeat (refine And.intro (by omega) ?_)
           refine ⟨rs.length - (j + 1),_,by omega,zaf [0,1,2,3] rfl rfl rfl ?_ ?_,j + 1,w + 1,cs.set w ⟨d,t,k,key,dd,val⟩,rfl,by omega,by simp [hcl],hf0,hd0,rfl⟩
           · simp only [ssT,zah,zai,setSlot,gOf,AV.ren,renL,Blk.ren,Ax.look,Ax.put,reduceCtorEq,↓reduceIte,Nat.reduceEqDiff,Nat.reduceLT,Nat.reduceAdd,List.length_append,List.length_cons,List.length_nil,Option.some.injEq]
           · simp only [ssT,zah,zai,setSlot,gOf,AV.ren,renL,Blk.ren,Ax.look,Ax.put,reduceCtorEq,↓reduceIte,Nat.reduceEqDiff,Nat.reduceLT,Nat.reduceAdd,List.length_append,List.length_cons,List.length_nil,Option.some.injEq,zce]
       · have d1 : decide ((j : Int) < rs.length) = false := decide_eq_false (by omega)
         have htj : rs.take j = rs := List.take_of_length_le (by omega)
         rw [htj] at htw
         simp only [go_sem,zab,Nat.reduceAdd,Nat.reduceSub,Nat.reduceMul,Int.reduceToNat,reduceCtorEq,↓reduceIte,Int.reducePow,Nat.reducePow,Int.reduceMod,Nat.reduceLeDiff,Int.reduceLE,Int.reduceNe,Int.reduceEq,Nat.reduceEqDiff,Nat.reduceLT,Nat.reduceBEq,List.map_cons,List.map_nil,List.toList_toArray,Array.toList_append,Option.toArray_some,Option.toArray_none,Bool.and_self,ty,noS,Odel17,del17Pl,zav,zce,cond_true,hl4,hl5,d1,zay,hA]
         refine ⟨_,Weak.refl _,?_⟩
         simp only [go_sem,zab,Nat.reduceAdd,Nat.reduceSub,Nat.reduceMul,Int.reduceToNat,reduceCtorEq,↓reduceIte,Int.reducePow,Nat.reducePow,Int.reduceMod,Nat.reduceLeDiff,Int.reduceLE,Int.reduceNe,Int.reduceEq,Nat.reduceEqDiff,Nat.reduceLT,Nat.reduceBEq,List.map_cons,List.map_nil,List.toList_toArray,Array.toList_append,Option.toArray_some,Option.toArray_none,Bool.and_self,ty,noS,Odel17,del17Pl,zav,zce,cond_true,hl4,hl5,d1,zay,hA,Int.toNat_natCast]
         repeat (refine And.intro (by omega) ?_)
         have hz : List.take w (cs.map rv) ++ (List.replicate (rs.length - w) (.agg [.w (.int .i64 0),.w (.int .i64 0),.w (.bool false),.str [],.w (.bool false),.str []]) ++ List.drop (w + (rs.length - w)) (cs.map rv)) = (cs.take w ++ List.replicate (rs.length - w) zR).map rv := by
           have h1 : List.drop (w + (rs.length - w)) (cs.map rv) = [] := List.drop_eq_nil_of_le (by simp; omega)
           rw [h1,List.append_nil,List.map_append,List.map_take,List.map_replicate]; rfl
         rw [hz]
         have hwl : (cs.take w).length = w := by rw [List.length_take]; omega
         have hdle : decide (0 + (w - 0) ≤ ((cs.take w ++ List.replicate (rs.length - w) zR).map rv).length) = true := decide_eq_true (by simp; omega)
         have htk : ((cs.take w ++ List.replicate (rs.length - w) zR).map rv).take (w - 0) = (rs.filter K).map rv := by
           rw [← htw,Nat.sub_zero,List.map_append,List.take_left' (by rw [List.length_map,hwl])]
         have hcz := zav (cs.take w ++ List.replicate (rs.length - w) zR)
         generalize (cs.take w ++ List.replicate (rs.length - w) zR).map rv = Z at *
         refine ⟨_,weak_fg 0 6 4 Z rfl hcz (by simp [slot,AV.ids]),?_⟩
         simp only [fgL,fgH,AV.fg,Blk.fg,Nat.reduceBEq,cond_true,cond_false,hdle,Bool.and_true,beq_self_eq_true,Bool.true_and,List.drop_zero,htk]
         simp only [go_sem,zab,Nat.reduceAdd,Nat.reduceSub,Nat.reduceMul,Int.reduceToNat,reduceCtorEq,↓reduceIte,Int.reducePow,Nat.reducePow,Int.reduceMod,Nat.reduceLeDiff,Int.reduceLE,Int.reduceNe,Int.reduceEq,Nat.reduceEqDiff,Nat.reduceLT,Nat.reduceBEq,List.map_cons,List.map_nil,List.toList_toArray,Array.toList_append,Option.toArray_some,Option.toArray_none,Bool.and_self,ty,noS,zay,zav,zce,cond_true]
 · rename_i f0 id now g b c p e s xs f es
   obtain rfl := hp
   refine ⟨by simp,del17Pl,by kernel_rfl,?_⟩
   have z0 : decide ((-1 : Int) = -1) = true := rfl
   unfold Try.f51
   simp only [go_sem,coe,zab,Nat.reduceAdd,Nat.reduceSub,Nat.reduceMul,Int.reduceToNat,reduceCtorEq,↓reduceIte,Int.reducePow,Nat.reducePow,Int.reduceMod,Nat.reduceLeDiff,Int.reduceLE,Int.reduceNe,Int.reduceEq,Nat.reduceEqDiff,Nat.reduceLT,Nat.reduceBEq,List.map_cons,List.map_nil,List.toList_toArray,Array.toList_append,Option.toArray_some,Option.toArray_none,Bool.and_self,ty,noS,Odel17,del17Pl,zav,zce,cond_true,idx17S,z0]
   refine ⟨_,Weak.refl _,?_⟩
   simp only [go_sem,coe,zab,Nat.reduceAdd,Nat.reduceSub,Nat.reduceMul,Int.reduceToNat,reduceCtorEq,↓reduceIte,Int.reducePow,Nat.reducePow,Int.reduceMod,Nat.reduceLeDiff,Int.reduceLE,Int.reduceNe,Int.reduceEq,Nat.reduceEqDiff,Nat.reduceLT,Nat.reduceBEq,List.map_cons,List.map_nil,List.toList_toArray,Array.toList_append,Option.toArray_some,Option.toArray_none,Bool.and_self,ty,noS,del17Pl]
 · exact hp.elim
end
end Go.Proofs.Ytnmomgcanfpigaa
namespace Go.Proofs.Ytnmomgcanfpigaa
open Ax
def clnB (M : KM) (now g : Int) (x : Bat) : Bat := ⟨x.b,x.c,x.p,x.e,x.s,x.rs.filter (fun r => keptB M x.b r now g)⟩
def empB (x : Bat) : Prop := x.rs.length = 0 ∧ x.p = 0
instance (x : Bat) : Decidable (empB x) := by unfold empB; infer_instance
def clnS (M : KM) (now g : Int) (a : List Bat) (x : Bat) : List Bat := if empB (clnB M now g x) then a else a ++ [clnB M now g x]
def clnM (M : KM) (now g : Int) (l : List Bat) : List Bat := l.foldl (clnS M now g) []
def clnL (l : List Bat) (now g : Int) : List Bat := clnM (lastK l) now g l
theorem clnM_len (M : KM) (now g : Int) : ∀ (l a : List Bat),(l.foldl (clnS M now g) a).length ≤ a.length + l.length
 | [],a => Nat.le_refl _
 | x :: l,a => by
   have h := clnM_len M now g l (clnS M now g a x)
   have h2 : (clnS M now g a x).length ≤ a.length + 1 := by unfold clnS; split <;> simp
   simp only [List.foldl_cons,List.length_cons]; omega
def emp17S : zal
 | [.agg [.w (.int .i64 b),.w (.int .i64 c),.w (.int .i64 p),.w (.int .i64 e),.w (.int .i64 s),.sg 6 xs f]],[] => ⟨xs.length ≤ 9223372036854775807,.w (.bool (decide (xs.length = 0 ∧ p = 0))),[]⟩
 | _,_ => zbg
def cln17S : zal
 | [.sg 6 xs f,.w (.int .i64 now),.w (.int .i64 g)],[] => ⟨xs.length ≤ 1000000 ∧ ∃ es : List (Bat × Bool),xs = es.map bvp ∧ ∀ p ∈ es,p.1.rs.length ≤ 1000000,.sg 6 (bfr (clnL (xs.map ubat) now g)) false,[]⟩
 | _,_ => zbg
section
set_option maxRecDepth 100000
theorem emp17_sound : zbb Try.prog 53 emp17S := by
 refine zaq (S := noS) (T := ty) zbf ty_ok zbs Try.func53 (c := Try.f53.body.getD .skip) (by kernel_rfl) (by kernel_rfl) (fun xs pins hp _ => ?_)
 unfold emp17S at hp ⊢
 split at hp
 · rename_i b c p e s xs f _
   have hL : xs.length ≤ 9223372036854775807 := hp
   refine ⟨by simp,?_⟩
   unfold Try.f53
   by_cases h1 : xs.length = 0
   · have d1 : decide ((xs.length : Int) = 0) = true := decide_eq_true (by omega)
     by_cases h2 : p = 0
     · have d2 : decide (p = 0) = true := decide_eq_true h2
       have dv : decide (xs.length = 0 ∧ p = 0) = true := decide_eq_true ⟨h1,h2⟩
       simp only [go_sem,zaa,Nat.reduceAdd,Nat.reduceSub,Nat.reduceMul,Int.reduceToNat,reduceCtorEq,↓reduceIte,Int.reducePow,Nat.reducePow,Int.reduceMod,Nat.reduceLeDiff,Int.reduceLE,Int.reduceNe,Int.reduceEq,Nat.reduceEqDiff,Nat.reduceLT,Nat.reduceBEq,ty,noS,d1,d2,dv]
     · have d2 : decide (p = 0) = false := decide_eq_false h2
       have dv : decide (xs.length = 0 ∧ p = 0) = false := decide_eq_false (fun h => h2 h.2)
       simp only [go_sem,zaa,Nat.reduceAdd,Nat.reduceSub,Nat.reduceMul,Int.reduceToNat,reduceCtorEq,↓reduceIte,Int.reducePow,Nat.reducePow,Int.reduceMod,Nat.reduceLeDiff,Int.reduceLE,Int.reduceNe,Int.reduceEq,Nat.reduceEqDiff,Nat.reduceLT,Nat.reduceBEq,ty,noS,d1,d2,dv]
   · have d1 : decide ((xs.length : Int) = 0) = false := decide_eq_false (by omega)
     have dv : decide (xs.length = 0 ∧ p = 0) = false := decide_eq_false (fun h => h1 h.1)
     simp only [go_sem,zaa,Nat.reduceAdd,Nat.reduceSub,Nat.reduceMul,Int.reduceToNat,reduceCtorEq,↓reduceIte,Int.reducePow,Nat.reducePow,Int.reduceMod,Nat.reduceLeDiff,Int.reduceLE,Int.reduceNe,Int.reduceEq,Nat.reduceEqDiff,Nat.reduceLT,Nat.reduceBEq,ty,noS,d1,dv]
 · exact hp.elim
def Scln17 (f : FuncId) : Option zal :=
 match f with
 | 48 => some last17S
 | 53 => some emp17S
 | 52 => some cloneUS
 | _ => none
theorem Scln17_ok : Fns Try.prog Scln17 := by
 intro f s h
 unfold Scln17 at h
 split at h
 · injection h with h; subst h; exact ⟨⟨_,Try.func48,by kernel_rfl,by kernel_rfl⟩,last17_sound⟩
 · injection h with h; subst h; exact ⟨⟨_,Try.func53,by kernel_rfl,by kernel_rfl⟩,emp17_sound⟩
 · injection h with h; subst h; exact ⟨⟨_,Try.func52,by kernel_rfl,by kernel_rfl⟩,cloneU_sound⟩
 · cases h
def Ocln17 (f : FuncId) : Option zal :=
 match f with
 | 51 => some del17S
 | _ => none
theorem Ocln17_ok : FnsO Try.prog Ocln17 := by
 intro f s h
 unfold Ocln17 at h
 split at h
 · injection h with h; subst h; exact ⟨⟨_,Try.func51,by kernel_rfl,by kernel_rfl⟩,del17_sound⟩
 · cases h
def cln17Pl : XPlan := fun id => match id with
 | 7 => .opn [] 4
 | _ => .std
set_option maxHeartbeats 4000000 in
theorem cln17_sound : zbb Try.prog 28 cln17S := by
 refine fn_soundOK (S := Scln17) (SO := Ocln17) (T := ty) zbf ty_ok Scln17_ok Ocln17_ok Try.func28 (c := Try.f28.body.getD .skip) (by kernel_rfl) (fun xs pins hp _ => ?_)
 unfold cln17S at hp ⊢
 split at hp
 · rename_i xs f now g _
   obtain ⟨hL,es,rfl,he⟩ := hp
   simp only [List.length_map] at hL
   refine ⟨by simp,cln17Pl,by kernel_rfl,?_⟩
   have hlp : (es.map bvp).length = es.length := by simp
   have hbs : isBs (es.map bvp) := ⟨es,rfl,fun p hp => by have := he p hp; omega⟩
   have mu := map_ubat es
   rw [mu]
   obtain ⟨l,hl⟩ : ∃ l,es.map Prod.fst = l := ⟨_,rfl⟩
   rw [hl] at mu ⊢
   have hlq : l.length = es.length := by subst hl; simp
   obtain ⟨M,hM⟩ : ∃ M,lastK l = M := ⟨_,rfl⟩
   have hcl : clnL l now g = clnM M now g l := by rw [← hM]; rfl
   have hkv : (kvA M).map ukv = M := ukv_kvA M
   have hmx : ∃ m,kvA M = kvA m := ⟨M,rfl⟩
   rw [hcl]
   have ht : top = 4294967296 := rfl
   have hx0 : ∃ qs : List Rec,([] : List AV) = qs.map rv := ⟨[],rfl⟩
   have hcB : ∀ h,coe ty 60 (.sg 6 (es.map bvp) h) = .sg 6 (es.map bvp) h := fun h => by cases es <;> rfl
   unfold Try.f28
   simp only [go_sem,zab,Nat.reduceAdd,Nat.reduceSub,Nat.reduceMul,Int.reduceToNat,reduceCtorEq,↓reduceIte,Int.reducePow,Nat.reducePow,Int.reduceMod,Nat.reduceLeDiff,Int.reduceLE,Int.reduceNe,Int.reduceEq,Nat.reduceEqDiff,Nat.reduceLT,Nat.reduceBEq,List.map_cons,List.map_nil,List.toList_toArray,Array.toList_append,Option.toArray_some,Option.toArray_none,Bool.and_self,ty,Scln17,Ocln17,cln17Pl,last17S,hcB,hlp,hbs,mu,hM]
   repeat (refine And.intro (by omega) ?_)
   refine zez ⟨fun m σ => ∃ (i : Nat) (a : List Bat),m = es.length - i ∧ i ≤ es.length ∧ clnM M now g l = (l.drop i).foldl (clnS M now g) a ∧ a.length ≤ i ∧
       σ = ⟨[.sg 6 (es.map bvp) f,.junk,.junk,.junk,.cp [.w (.int .i64 now)],.cp [.w (.int .i64 g)],.junk,.rf 5 1 0 0,.ms 6 6 0 a.length,.junk,.junk,.junk,.junk,.junk,.sg 6 (es.map bvp) f,.w (.int .i64 es.length),.w (.int .i64 i),.junk,.junk,.junk,.junk,.junk,.junk,.junk,.junk,.junk,.junk,.junk,.junk,.junk,.junk,.junk,.junk,.junk,.junk,.junk],
         [(4,.o (.mp (kvA M))),(5,.g 1 [.rf 4 0 0 0]),(6,.g 6 (bfr a))],7⟩,?_,?_⟩
   · refine ⟨_,_,(weak_fp 4 4 (.int .i64 now) rfl (by simp [slot,AV.ids])).trans ((weak_fp 12 5 (.int .i64 g) rfl (by simp [slot,AV.ids,fpL,AV.fp])).trans ((weak_nil 8 6 (.g 6 []) ⟨by decide,rfl⟩ (by exact trivial)).trans (zaf [0,1,2,3,36,44,92] rfl rfl rfl ?_ ?_))),0,[],rfl,by omega,rfl,by simp,rfl⟩
     · simp only [ssT,zah,zai,setSlot,gOf,AV.ren,renL,Blk.ren,Ax.look,Ax.put,reduceCtorEq,↓reduceIte,Nat.reduceEqDiff,Nat.reduceLT,Nat.reduceAdd,List.length_append,List.length_cons,List.length_nil,Option.some.injEq,fpL,fpH,AV.fp,Blk.fp,Nat.reduceBEq,cond_true,cond_false,beq_self_eq_true,Bool.and_self]; try simp
     · simp only [ssT,zah,zai,setSlot,gOf,AV.ren,renL,Blk.ren,Ax.look,Ax.put,reduceCtorEq,↓reduceIte,Nat.reduceEqDiff,Nat.reduceLT,Nat.reduceAdd,List.length_append,List.length_cons,List.length_nil,Option.some.injEq,fpL,fpH,AV.fp,Blk.fp,Nat.reduceBEq,cond_true,cond_false,beq_self_eq_true,Bool.and_self,bfr_nil]; try simp
   · rintro m σ ⟨i,a,rfl,hi,hinv,hal,rfl⟩
     have e1 : ((i : Int) + 1 + 9223372036854775808) % 18446744073709551616 - 9223372036854775808 = ((i + 1 : Nat) : Int) := by omega
     have hml := len_bfr a
     by_cases hil : i < es.length
     · have d3 : decide ((i : Int) < es.length) = true := decide_eq_true (by omega)
       have hs1 := slot_bvp es i hil
       have m1 := he es[i] (List.getElem_mem hil)
       have hdr : l.drop i = es[i].1 :: l.drop (i + 1) := by
         rw [List.drop_eq_getElem_cons (by omega)]
         subst hl; simp
       obtain ⟨P,hP⟩ : ∃ P,es[i] = P := ⟨_,rfl⟩
       rw [hP] at hs1 m1 hdr
       rw [hdr,List.foldl_cons] at hinv
       obtain ⟨⟨b,c,p,e,s,rs⟩,f'⟩ := P
       have hs1 : slot (es.map bvp) i = .agg [.w (.int .i64 b),.w (.int .i64 c),.w (.int .i64 p),.w (.int .i64 e),.w (.int .i64 s),.sg 6 (rs.map rv) f'] := hs1
       simp only at m1
       have hlr : (rs.map rv).length = rs.length := by simp
       have hcR : ∀ h,coe ty 44 (.sg 6 (rs.map rv) h) = .sg 6 (rs.map rv) h := fun h => by cases rs <;> rfl
       have hx : ∃ qs : List Rec,rs.map rv = qs.map rv := ⟨rs,rfl⟩
       have hr1 := zay rs
       have hflt : rs.filter (fun r => !goB M b now g r) = rs.filter (fun r => keptB M b r now g) := by
         have hf : (fun r => !goB M b now g r) = fun r => keptB M b r now g := by funext r; unfold goB; exact Bool.not_not _
         rw [hf]
       obtain ⟨qs,hq⟩ : ∃ qs,rs.filter (fun r => keptB M b r now g) = qs := ⟨_,rfl⟩
       rw [hq] at hflt
       have hlqs : qs.length ≤ rs.length := by rw [← hq]; exact List.length_filter_le _ _
       have hlqv : (qs.map rv).length = qs.length := by simp
       have hB : clnB M now g ⟨b,c,p,e,s,rs⟩ = ⟨b,c,p,e,s,qs⟩ := by unfold clnB; rw [hq]
       unfold clnS at hinv
       rw [hB] at hinv
       have hst : (qs.length = 0 ∧ p = 0) = empB ⟨b,c,p,e,s,qs⟩ := rfl
       have hcN : ∀ h,coe ty 44 (.sg 6 [] h) = .sg 6 [] h := fun h => rfl
       have hbsn := bfr_snoc a ⟨b,c,p,e,s,qs⟩
       simp only [bav] at hbsn
       by_cases hz : rs.length = 0
       · obtain rfl : rs = [] := List.eq_nil_of_length_eq_zero hz
         have hq0 : qs = [] := by rw [← hq]; exact List.filter_nil
         clear hq hflt hB hlqs hlqv hcR hlr hx hr1
         subst hq0
         simp only [List.map_nil] at hs1 hbsn
         have l0 : ([] : List AV).length = 0 := rfl
         by_cases hE : empB ⟨b,c,p,e,s,[]⟩
         · have dE : decide (p = 0) = true := decide_eq_true hE.2
           rw [if_pos hE] at hinv
           simp only [go_sem,zab,Nat.reduceAdd,Nat.reduceSub,Nat.reduceMul,Int.reduceToNat,reduceCtorEq,↓reduceIte,Int.reducePow,Nat.reducePow,Int.reduceMod,Nat.reduceLeDiff,Int.reduceLE,Int.reduceNe,Int.reduceEq,Nat.reduceEqDiff,Nat.reduceLT,Nat.reduceBEq,List.map_cons,List.map_nil,List.toList_toArray,Array.toList_append,Option.toArray_some,Option.toArray_none,Bool.and_self,ty,Scln17,Ocln17,cln17Pl,cloneUS,del17S,emp17S,hcN,hlp,hml,d3,hs1,hx0,emp6_nil,dE,e1,cond_true,cond_false,zav,zce,Int.toNat_natCast,Bool.not_true,l0]
           repeat (refine And.intro (by omega) ?_)
           refine ⟨es.length - (i + 1),_,by omega,zaf [0,1,2,3,4,5,6] rfl rfl rfl ?_ ?_,i + 1,a,rfl,by omega,hinv,by omega,rfl⟩
           · simp only [ssT,zah,zai,setSlot,gOf,AV.ren,renL,Blk.ren,Ax.look,Ax.put,reduceCtorEq,↓reduceIte,Nat.reduceEqDiff,Nat.reduceLT,Nat.reduceAdd,List.length_append,List.length_cons,List.length_nil,Option.some.injEq]
           · simp only [ssT,zah,zai,setSlot,gOf,AV.ren,renL,Blk.ren,Ax.look,Ax.put,reduceCtorEq,↓reduceIte,Nat.reduceEqDiff,Nat.reduceLT,Nat.reduceAdd,List.length_append,List.length_cons,List.length_nil,Option.some.injEq,zeg]
         · have dE : decide (p = 0) = false := decide_eq_false (fun h => hE ⟨rfl,h⟩)
           rw [if_neg hE] at hinv
           simp only [go_sem,zab,Nat.reduceAdd,Nat.reduceSub,Nat.reduceMul,Int.reduceToNat,reduceCtorEq,↓reduceIte,Int.reducePow,Nat.reducePow,Int.reduceMod,Nat.reduceLeDiff,Int.reduceLE,Int.reduceNe,Int.reduceEq,Nat.reduceEqDiff,Nat.reduceLT,Nat.reduceBEq,List.map_cons,List.map_nil,List.toList_toArray,Array.toList_append,Option.toArray_some,Option.toArray_none,Bool.and_self,ty,Scln17,Ocln17,cln17Pl,cloneUS,del17S,emp17S,hcN,hlp,hml,d3,hs1,hx0,emp6_nil,dE,e1,cond_true,cond_false,zav,zce,Int.toNat_natCast,Bool.not_false,l0]
           repeat (refine And.intro (by omega) ?_)
           refine ⟨es.length - (i + 1),_,by omega,zaf [0,1,2,3,4,5,167] rfl rfl rfl ?_ ?_,i + 1,_,rfl,by omega,hinv,by simp; omega,rfl⟩
           · simp only [ssT,zah,zai,setSlot,gOf,AV.ren,renL,Blk.ren,Ax.look,Ax.put,reduceCtorEq,↓reduceIte,Nat.reduceEqDiff,Nat.reduceLT,Nat.reduceAdd,List.length_append,List.length_cons,List.length_nil,Option.some.injEq,List.length_append,List.length_cons,List.length_nil]
           · simp only [ssT,zah,zai,setSlot,gOf,AV.ren,renL,Blk.ren,Ax.look,Ax.put,reduceCtorEq,↓reduceIte,Nat.reduceEqDiff,Nat.reduceLT,Nat.reduceAdd,List.length_append,List.length_cons,List.length_nil,Option.some.injEq,zeg,hbsn]
             rw [← hbsn,zeg]
       · have hem : emp6 (rs.map rv) = false := by cases rs with | nil => simp at hz | cons _ _ => rfl
         have hpos : 0 < rs.length := by omega
         have dpos : decide (0 < rs.length) = true := decide_eq_true hpos
         by_cases hE : empB ⟨b,c,p,e,s,qs⟩
         · have dE : decide (qs.length = 0 ∧ p = 0) = true := decide_eq_true hE
           rw [if_pos hE] at hinv
           simp only [go_sem,zab,Nat.reduceAdd,Nat.reduceSub,Nat.reduceMul,Int.reduceToNat,reduceCtorEq,↓reduceIte,Int.reducePow,Nat.reducePow,Int.reduceMod,Nat.reduceLeDiff,Int.reduceLE,Int.reduceNe,Int.reduceEq,Nat.reduceEqDiff,Nat.reduceLT,Nat.reduceBEq,List.map_cons,List.map_nil,List.toList_toArray,Array.toList_append,Option.toArray_some,Option.toArray_none,Bool.and_self,ty,Scln17,Ocln17,cln17Pl,cloneUS,del17S,emp17S,hcR,hlp,hml,hlr,hlqv,d3,hs1,hx,hr1,hem,hpos,dpos,hmx,hkv,hflt,dE,e1,cond_true,cond_false,zav,zce,Int.toNat_natCast,Bool.not_true]
           repeat (refine And.intro (by omega) ?_)
           refine ⟨es.length - (i + 1),_,by omega,zaf [0,1,2,3,4,5,6] rfl rfl rfl ?_ ?_,i + 1,a,rfl,by omega,hinv,by omega,rfl⟩
           · simp only [ssT,zah,zai,setSlot,gOf,AV.ren,renL,Blk.ren,Ax.look,Ax.put,reduceCtorEq,↓reduceIte,Nat.reduceEqDiff,Nat.reduceLT,Nat.reduceAdd,List.length_append,List.length_cons,List.length_nil,Option.some.injEq]
           · simp only [ssT,zah,zai,setSlot,gOf,AV.ren,renL,Blk.ren,Ax.look,Ax.put,reduceCtorEq,↓reduceIte,Nat.reduceEqDiff,Nat.reduceLT,Nat.reduceAdd,List.length_append,List.length_cons,List.length_nil,Option.some.injEq,zeg]
         · have dE : decide (qs.length = 0 ∧ p = 0) = false := decide_eq_false hE
           rw [if_neg hE] at hinv
           simp only [go_sem,zab,Nat.reduceAdd,Nat.reduceSub,Nat.reduceMul,Int.reduceToNat,reduceCtorEq,↓reduceIte,Int.reducePow,Nat.reducePow,Int.reduceMod,Nat.reduceLeDiff,Int.reduceLE,Int.reduceNe,Int.reduceEq,Nat.reduceEqDiff,Nat.reduceLT,Nat.reduceBEq,List.map_cons,List.map_nil,List.toList_toArray,Array.toList_append,Option.toArray_some,Option.toArray_none,Bool.and_self,ty,Scln17,Ocln17,cln17Pl,cloneUS,del17S,emp17S,hcR,hlp,hml,hlr,hlqv,d3,hs1,hx,hr1,hem,hpos,dpos,hmx,hkv,hflt,dE,e1,cond_true,cond_false,zav,zce,Int.toNat_natCast,Bool.not_false]
           repeat (refine And.intro (by omega) ?_)
           refine ⟨es.length - (i + 1),_,by omega,zaf [0,1,2,3,4,5,167] rfl rfl rfl ?_ ?_,i + 1,_,rfl,by omega,hinv,by simp; omega,rfl⟩
           · simp only [ssT,zah,zai,setSlot,gOf,AV.ren,renL,Blk.ren,Ax.look,Ax.put,reduceCtorEq,↓reduceIte,Nat.reduceEqDiff,Nat.reduceLT,Nat.reduceAdd,List.length_append,List.length_cons,List.length_nil,Option.some.injEq,List.length_append,List.length_cons,List.length_nil]
           · simp only [ssT,zah,zai,setSlot,gOf,AV.ren,renL,Blk.ren,Ax.look,Ax.put,reduceCtorEq,↓reduceIte,Nat.reduceEqDiff,Nat.reduceLT,Nat.reduceAdd,List.length_append,List.length_cons,List.length_nil,Option.some.injEq,zeg,hbsn]
             rw [← hbsn,zeg]
     · have d3 : decide ((i : Int) < es.length) = false := decide_eq_false (by omega)
       have hdr : l.drop i = [] := List.drop_eq_nil_of_le (by omega)
       rw [hdr,List.foldl_nil] at hinv
       simp only [go_sem,zab,Nat.reduceAdd,Nat.reduceSub,Nat.reduceMul,Int.reduceToNat,reduceCtorEq,↓reduceIte,Int.reducePow,Nat.reducePow,Int.reduceMod,Nat.reduceLeDiff,Int.reduceLE,Int.reduceNe,Int.reduceEq,Nat.reduceEqDiff,Nat.reduceLT,Nat.reduceBEq,List.map_cons,List.map_nil,List.toList_toArray,Array.toList_append,Option.toArray_some,Option.toArray_none,Bool.and_self,ty,Scln17,Ocln17,cln17Pl,hlp,hml,d3]
       refine ⟨_,Weak.refl _,?_⟩
       simp only [go_sem,zab,Nat.reduceAdd,Nat.reduceSub,Nat.reduceMul,Int.reduceToNat,reduceCtorEq,↓reduceIte,Int.reducePow,Nat.reducePow,Int.reduceMod,Nat.reduceLeDiff,Int.reduceLE,Int.reduceNe,Int.reduceEq,Nat.reduceEqDiff,Nat.reduceLT,Nat.reduceBEq,List.map_cons,List.map_nil,List.toList_toArray,Array.toList_append,Option.toArray_some,Option.toArray_none,Bool.and_self,ty,Scln17,Ocln17,cln17Pl,hlp,hml,d3]
       have hdle : decide (0 + a.length ≤ (bfr a).length) = true := decide_eq_true (by omega)
       have htk : (bfr a).take a.length = bfr a := List.take_of_length_le (by omega)
       refine ⟨_,weak_fg 6 6 6 (bfr a) rfl (closed_bfr a) (by simp [slot,AV.ids]),?_⟩
       simp only [fgL,fgH,AV.fg,Blk.fg,Nat.reduceBEq,cond_true,cond_false,hdle,Bool.and_true,beq_self_eq_true,Bool.true_and,List.drop_zero,htk]
       rw [← hinv]
       simp only [go_sem,zab,Nat.reduceAdd,Nat.reduceSub,Nat.reduceMul,Int.reduceToNat,reduceCtorEq,↓reduceIte,Int.reducePow,Nat.reducePow,Int.reduceMod,Nat.reduceLeDiff,Int.reduceLE,Int.reduceNe,Int.reduceEq,Nat.reduceEqDiff,Nat.reduceLT,Nat.reduceBEq,List.map_cons,List.map_nil,List.toList_toArray,Array.toList_append,Option.toArray_some,Option.toArray_none,Bool.and_self,ty,closed_bfr,zeg,cond_true]
 · exact hp.elim
end
end Go.Proofs.Ytnmomgcanfpigaa
namespace Go.Proofs.Ytnmomgcanfpigaa
open Ax
theorem fix1_cons (c : UInt8) (r : List UInt8) : rfixN 1 (c :: r) 0 = c.toNat ∧ rfixL 1 (c :: r) 0 = r ∧ rfixE 1 (c :: r) 0 = 0 := by
 have h1 : clampI 1 = 1 := by decide
 have h2 : ¬ (((c :: r).length : Int) < 1) := by simp; omega
 refine ⟨?_,?_,?_⟩
 · unfold rfixN tkB
   rw [if_pos rfl,h1,if_neg h2]
   simp [zdr,unfL]
 · unfold rfixL tkL
   rw [if_pos rfl,h1,if_neg h2]
   simp
 · unfold rfixE tkE
   rw [if_pos rfl,h1,if_neg h2]
theorem num_put (n : Int) (h1 : -9223372036854775808 ≤ n) (h2 : n ≤ 9223372036854775807) (r : List UInt8) :
   numN (putU (zz n).toNat ++ r) 0 = n ∧ numL (putU (zz n).toNat ++ r) 0 = r ∧ numE (putU (zz n).toNat ++ r) 0 = 0 := by
 have hz := zz_range n h1 h2
 have hg := getL_put (zz n).toNat (by omega) r
 have hc : (((zz n).toNat : Nat) : Int) = zz n := by omega
 rw [hc,zg_zz] at hg
 unfold numN numL numE
 rw [if_pos rfl,if_pos rfl,if_pos rfl,hg]
 exact ⟨rfl,by simp,rfl⟩
theorem zz_len (n : Nat) : (zz (n : Int)).toNat = 2 * n := by unfold zz; rw [if_pos (by omega)]; omega
theorem text_put (m : Int) (s r : List UInt8) (hm : (s.length : Int) ≤ m) (hs : s.length ≤ 1000000) :
   rtS' m (zfd s ++ r) 0 = s ∧ rtL m (zfd s ++ r) 0 = r ∧ rtE m (zfd s ++ r) 0 = 0 := by
 obtain ⟨h1,h2,h3⟩ := num_put (s.length : Int) (by omega) (by omega) (s ++ r)
 rw [zz_len] at h1 h2 h3
 have e : zfd s ++ r = putU (2 * s.length) ++ (s ++ r) := by unfold zfd; rw [List.append_assoc]
 have hok : rtOk m (zfd s ++ r) 0 := by unfold rtOk; rw [e,h1,h3]; omega
 have hl : ¬ (((s ++ r).length : Int) < (s.length : Int)) := by simp; omega
 unfold rtS' rtL rtE
 rw [if_pos hok,if_pos hok,if_pos hok,e,h1,h2,h3]
 unfold tkB tkL tkE
 rw [if_neg hl,if_neg hl,if_neg hl]
 simp
end Go.Proofs.Ytnmomgcanfpigaa
namespace Go.Proofs.Ytnmomgcanfpigaa
open Ax
theorem key_back21 (g t : List UInt8) (i : Int) (hg : g.length ≤ 20) (ht : t.length ≤ 32) (hi : 0 ≤ i) (hi8 : i < 8) :
   cG (kyL g t i) = g ∧ cT (kyL g t i) = t ∧ cI (kyL g t i) = i := by
 obtain ⟨a1,a2,a3⟩ := text_put 20 g (zfd t ++ [UInt8.ofNat i.toNat]) (by omega) (by omega)
 obtain ⟨b1,b2,b3⟩ := text_put 32 t [UInt8.ofNat i.toNat] (by omega) (by omega)
 have e : kyL g t i = zfd g ++ (zfd t ++ [UInt8.ofNat i.toNat]) := by unfold kyL; rw [List.append_assoc]
 have c1 : cG (kyL g t i) = g := by unfold cG; rw [e]; exact a1
 have c2 : cL1 (kyL g t i) = zfd t ++ [UInt8.ofNat i.toNat] := by unfold cL1; rw [e]; exact a2
 have c3 : cE1 (kyL g t i) = 0 := by unfold cE1; rw [e]; exact a3
 refine ⟨c1,?_,?_⟩
 · unfold cT; rw [c2,c3]; exact b1
 · unfold cI
   have d2 : cL2 (kyL g t i) = [UInt8.ofNat i.toNat] := by unfold cL2; rw [c2,c3]; exact b2
   have d3 : cE2 (kyL g t i) = 0 := by unfold cE2; rw [c2,c3]; exact b3
   rw [d2,d3,(fix1_cons _ []).1]
   simp only [UInt8.toNat_ofNat']
   omega
theorem val_back21 (o : Int) (h0 : 0 ≤ o) (h1 : o ≤ 4611686018427387903) : cO false (putU (zz o).toNat) = o := by
 have hz := zz_range o (by omega) (by omega)
 have hg := getL_put (zz o).toNat (by omega) []
 have hc : (((zz o).toNat : Nat) : Int) = zz o := by omega
 rw [hc,zg_zz,List.append_nil] at hg
 unfold cO
 rw [hg]; rfl
theorem chkC_off21 {g t : List UInt8} {i o : Int} (h : chkC g t i o = 0) : chkC g t i 0 = 0 := by
 have h1 := zby g t i o
 have h2 := zby g t i 0
 omega
theorem kyE_zero21 {g t : List UInt8} {i o T : Int} (h : kyE g t i o T = 0) : chkC g t i o = 0 := by
 unfold kyE at h
 by_cases h0 : chkC g t i o = 0
 · exact h0
 · rw [if_neg h0] at h; exact h
theorem kyE_now21 {g t : List UInt8} {i o : Int} (h : chkC g t i o = 0) : kyE g t i o 0 = 0 := by
 unfold kyE; rw [if_pos h,if_neg (by omega)]
theorem gt_back21 {g t : List UInt8} {i o T : Int} (h : kyE g t i o T = 0) (dd : Bool) :
   gcK true (kyL g t i) dd (if dd then [] else putU (zz o).toNat) = true ∧ gtCA true (kyL g t i) dd (if dd then [] else putU (zz o).toNat) = .agg [.str g,.str t,.w (.int .i64 i),.w (.int .i64 (if dd then 0 else o))] := by
 have h0 := kyE_zero21 h
 have h1 := zby g t i o
 obtain ⟨b1,b2,b3⟩ := key_back21 g t i (by omega) (by omega) (by omega) (by omega)
 have b4 := val_back21 o (by omega) (by omega)
 have hk : gcK true (kyL g t i) dd (if dd then [] else putU (zz o).toNat) = true := by
   unfold gcK
   cases dd with
   | false =>
     simp only [b1,b2,b3,b4,cV,Bool.false_eq_true,if_false,decide_true,Bool.and_true,Bool.true_and]
     exact decide_eq_true (kyE_now21 h0)
   | true =>
     have : cO true [] = 0 := rfl
     simp only [b1,b2,b3,cV,this,if_true,decide_true,Bool.and_true,Bool.true_and]
     exact decide_eq_true (kyE_now21 (chkC_off21 h0))
 refine ⟨hk,?_⟩
 unfold gtCA
 rw [hk]
 cases dd with
 | false => simp only [cond_true,b1,b2,b3,b4,Bool.false_eq_true,if_false]
 | true => simp only [cond_true,b1,b2,b3,if_true]; rfl
def kyC (c : Cm) : List UInt8 := kyL c.g c.t c.i
def vlC (c : Cm) : List UInt8 := putU (zz c.o).toNat
def rcC (T : Int) (c : Cm) : Rec := ⟨0,T,true,kyC c,false,vlC c⟩
def btC (T : Int) : Nat → List Cm → List Bat
 | _,[] => []
 | n,c :: cs => ⟨n,1,0,0,0,[rcC T c]⟩ :: btC T (n + 1) cs
theorem btC_len (T : Int) : ∀ (cs : List Cm) (n : Nat),(btC T n cs).length = cs.length
 | [],_ => rfl
 | c :: cs,n => by simp [btC,btC_len T cs]
theorem btC_snoc (T : Int) (c : Cm) : ∀ (cs : List Cm) (n : Nat),btC T n (cs ++ [c]) = btC T n cs ++ [⟨((n + cs.length : Nat) : Int),1,0,0,0,[rcC T c]⟩]
 | [],n => by simp [btC]
 | d :: cs,n => by
   simp only [List.cons_append,btC,btC_snoc T c cs (n + 1),List.length_cons]
   rw [show n + 1 + cs.length = n + (cs.length + 1) by omega]
def okC (c : Cm) : Prop := chkC c.g c.t c.i c.o = 0
theorem key_same {a b : Cm} (ha : okC a) (hb : okC b) : kyC a = kyC b ↔ zdl a b = true := by
 have h1 := zby a.g a.t a.i a.o
 have h2 := zby b.g b.t b.i b.o
 unfold okC at ha hb
 obtain ⟨a1,a2,a3⟩ := key_back21 a.g a.t a.i (by omega) (by omega) (by omega) (by omega)
 obtain ⟨b1,b2,b3⟩ := key_back21 b.g b.t b.i (by omega) (by omega) (by omega) (by omega)
 constructor
 · intro h
   unfold kyC at h
   rw [h] at a1 a2 a3
   exact same_iff.2 ⟨a1.symm.trans b1,a2.symm.trans b2,a3.symm.trans b3⟩
 · intro h
   obtain ⟨e1,e2,e3⟩ := same_iff.1 h
   unfold kyC
   rw [e1,e2,e3]
def Und (M : KM) (n : Nat) : Prop := ∀ k v,gtK M k = some v → v < n
theorem offI_nat (n : Nat) (h : n ≤ 1000000) : offI (n : Int) 0 = n := by unfold offI; omega
theorem stKB_one {M : KM} {n : Nat} (T : Int) (c : Cm) (h : Und M n) (hn : n ≤ 1000000) : stKB M ⟨n,1,0,0,0,[rcC T c]⟩ = ptK M (kyC c) n := by
 show stK n M (rcC T c) = _
 unfold stK rcC
 simp only [if_true]
 rw [offI_nat n hn]
 cases hg : gtK M (kyC c) with
 | none => rfl
 | some v => simp only; rw [if_pos (h _ _ hg)]
theorem und_put {M : KM} {n : Nat} (k : List UInt8) (h : Und M n) : Und (ptK M k n) (n + 1) := by
 intro k' v hv
 rw [gtK_ptK] at hv
 split at hv
 · injection hv with hv; omega
 · have := h k' v hv; omega
theorem last_get (T : Int) : ∀ (cs : List Cm) (n : Nat) (M : KM),Und M n → n + cs.length ≤ 1000000 → ∀ k,((∀ c ∈ cs,kyC c ≠ k) → gtK ((btC T n cs).foldl stKB M) k = gtK M k) ∧
   ((∃ c ∈ cs,kyC c = k) → ∃ v : Int,gtK ((btC T n cs).foldl stKB M) k = some v ∧ (n : Int) ≤ v)
 | [],n,M,hU,hn,k => ⟨fun _ => rfl,fun ⟨c,hc,_⟩ => by simp at hc⟩
 | c :: cs,n,M,hU,hn,k => by
   rw [List.length_cons] at hn
   have ih := last_get T cs (n + 1) (ptK M (kyC c) n) (und_put _ hU) (by omega) k
   have e : (btC T n (c :: cs)).foldl stKB M = (btC T (n + 1) cs).foldl stKB (ptK M (kyC c) n) := by
     show (btC T (n + 1) cs).foldl stKB (stKB M _) = _
     rw [stKB_one T c hU (by omega)]
   rw [e]
   refine ⟨fun h => ?_,fun ⟨d,hd,hk⟩ => ?_⟩
   · rw [ih.1 (fun c' hc' => h c' (by simp [hc'])),gtK_ptK,if_neg (fun e => h c (by simp) e.symm)]
   · by_cases hx : ∃ c' ∈ cs,kyC c' = k
     · obtain ⟨v,h1,h2⟩ := ih.2 hx
       exact ⟨v,h1,by omega⟩
     · have hno : ∀ c' ∈ cs,kyC c' ≠ k := fun c' hc' he => hx ⟨c',hc',he⟩
       have hdc : kyC c = k := by
         rcases List.mem_cons.1 hd with rfl | hd
         · exact hk
         · exact absurd hk (hno d hd)
       exact ⟨n,by rw [ih.1 hno,gtK_ptK,if_pos hdc.symm],Int.le_refl _⟩
def plB (d : List Cm) (x : Bat) : List Cm := pls d x.rs
theorem pl_rc (T : Int) (d : List Cm) {c : Cm} (hT : 0 ≤ T) (hT2 : T ≤ 1099511627776) (hc : okC c) : pls d [rcC T c] = putC d c := by
 have hk : kyE c.g c.t c.i c.o T = 0 := by
   unfold kyE; rw [if_pos (show chkC c.g c.t c.i c.o = 0 from hc),if_neg (by omega)]
 have g1 := (gt_back21 hk false).1
 have h1 := zby c.g c.t c.i c.o
 have hc' : chkC c.g c.t c.i c.o = 0 := hc
 obtain ⟨b1,b2,b3⟩ := key_back21 c.g c.t c.i (by omega) (by omega) (by omega) (by omega)
 have b4 := val_back21 c.o (by omega) (by omega)
 simp only [Bool.false_eq_true,if_false] at g1
 show pl1 d (rcC T c) = _
 unfold pl1 rcC kyC vlC
 rw [if_pos g1]
 unfold cmR
 simp only [b1,b2,b3,b4]
 rfl
theorem clean_puts (T : Int) (hT : 0 ≤ T) (hT2 : T ≤ 1099511627776) : ∀ (cs : List Cm) (n : Nat) (M : KM) (d : List Cm),Und M n → n + cs.length ≤ 1000000 → (∀ c ∈ cs,okC c) →
   ((btC T n cs).flatMap fun x => if empB (clnB ((btC T n cs).foldl stKB M) 0 0 x) then [] else [clnB ((btC T n cs).foldl stKB M) 0 0 x]).foldl plB d = puts d (lasts cs)
 | [],n,M,d,hU,hn,hok => rfl
 | c :: cs,n,M,d,hU,hn,hok => by
   rw [List.length_cons] at hn
   have hc := hok c (by simp)
   have hcs : ∀ c' ∈ cs,okC c' := fun c' h => hok c' (by simp [h])
   have e : (btC T n (c :: cs)).foldl stKB M = (btC T (n + 1) cs).foldl stKB (ptK M (kyC c) n) := by
     show (btC T (n + 1) cs).foldl stKB (stKB M _) = _
     rw [stKB_one T c hU (by omega)]
   have ih := fun d => clean_puts T hT hT2 cs (n + 1) (ptK M (kyC c) n) d (und_put _ hU) (by omega) hcs
   have hl := last_get T cs (n + 1) (ptK M (kyC c) n) (und_put _ hU) (by omega) (kyC c)
   rw [e]
   generalize (btC T (n + 1) cs).foldl stKB (ptK M (kyC c) n) = M' at *
   show ((⟨n,1,0,0,0,[rcC T c]⟩ :: btC T (n + 1) cs : List Bat).flatMap _).foldl plB d = _
   rw [List.flatMap_cons,List.foldl_append,ih]
   simp only [lasts]
   have hcl : clnB M' 0 0 ⟨n,1,0,0,0,[rcC T c]⟩ = ⟨n,1,0,0,0,[rcC T c].filter fun r => keptB M' n r 0 0⟩ := rfl
   have hkp : keptB M' n (rcC T c) 0 0 = decide ((gtK M' (kyC c)).getD 0 = (n : Int)) := by
     unfold keptB rcC
     simp only [offI_nat n (by omega),Bool.not_true,Bool.false_or,Bool.false_and,Bool.not_false,Bool.and_true]
   rw [hcl]
   by_cases ha : (cs.any fun x => zdl x c) = true
   · rw [if_pos ha]
     obtain ⟨y,hy,hyc⟩ := List.any_eq_true.1 ha
     obtain ⟨v,h1,h2⟩ := hl.2 ⟨y,hy,(key_same (hcs y hy) hc).2 hyc⟩
     have hk : keptB M' n (rcC T c) 0 0 = false := by
       rw [hkp,h1]
       exact decide_eq_false (by simp only [Option.getD_some]; omega)
     have hf : [rcC T c].filter (fun r => keptB M' n r 0 0) = [] := by simp [hk]
     rw [hf,if_pos ⟨rfl,rfl⟩]
     rfl
   · rw [if_neg ha]
     have hno : ∀ c' ∈ cs,kyC c' ≠ kyC c := fun c' h he => ha (List.any_eq_true.2 ⟨c',h,(key_same (hcs c' h) hc).1 he⟩)
     have h1 := hl.1 hno
     rw [gtK_ptK,if_pos rfl] at h1
     have hk : keptB M' n (rcC T c) 0 0 = true := by
       rw [hkp,h1]
       exact decide_eq_true rfl
     have hf : [rcC T c].filter (fun r => keptB M' n r 0 0) = [rcC T c] := by simp [hk]
     rw [hf,if_neg (fun h => by have := h.1; simp at this)]
     show puts (plB d _) _ = puts (putC d c) _
     unfold plB
     rw [pl_rc T d hT hT2 hc]
theorem play_all (T : Int) (hT : 0 ≤ T) (hT2 : T ≤ 1099511627776) : ∀ (cs : List Cm) (n : Nat) (d : List Cm),(∀ c ∈ cs,okC c) → (btC T n cs).foldl plB d = puts d cs
 | [],n,d,_ => rfl
 | c :: cs,n,d,h => by
   show (btC T (n + 1) cs).foldl plB (plB d _) = puts (putC d c) cs
   unfold plB
   rw [pl_rc T d hT hT2 (h c (by simp))]
   exact play_all T hT hT2 cs (n + 1) _ (fun c' h' => h c' (by simp [h']))
theorem clnS_flat (M : KM) (now g : Int) : ∀ (l a : List Bat),l.foldl (clnS M now g) a = a ++ l.flatMap fun x => if empB (clnB M now g x) then [] else [clnB M now g x]
 | [],a => by simp
 | x :: l,a => by
   rw [List.foldl_cons,clnS_flat M now g l,List.flatMap_cons]
   unfold clnS
   split <;> simp
theorem compact_same (T : Int) (hT : 0 ≤ T) (hT2 : T ≤ 1099511627776) (cs : List Cm) (hn : cs.length ≤ 1000000) (hok : ∀ c ∈ cs,okC c) :
   (clnL (btC T 0 cs) 0 0).foldl plB [] = (btC T 0 cs).foldl plB [] := by
 have hU : Und ([] : KM) 0 := fun k v h => by cases h
 unfold clnL clnM lastK
 rw [clnS_flat,List.nil_append,clean_puts T hT hT2 cs 0 [] [] hU (by omega) hok,play_all T hT hT2 cs 0 [] hok,puts_lasts]
end Go.Proofs.Ytnmomgcanfpigaa
namespace Go.Proofs.Ytnmomgcanfpigaa
open Ax
section
set_option maxRecDepth 100000
def lit21R (r : Cm) : Prop := r.g.length ≤ 60 ∧ r.t.length ≤ 60
instance (r : Cm) : Decidable (lit21R r) := by unfold lit21R; infer_instance
def lit21L (l : List Cm) : Prop := l.length ≤ 30 ∧ ∀ r ∈ l,lit21R r
instance (l : List Cm) : Decidable (lit21L l) := by unfold lit21L; infer_instance
def lit21S : zal
 | [.sg 4 xs f],[] => ⟨xs.length ≤ 9223372036854775807 ∧ ∃ l : List Cm,xs = l.map cmA,.w (.bool (decide (lit21L (xs.map ucm)))),[]⟩
 | _,_ => zbg
set_option maxHeartbeats 4000000 in
theorem lit21_sound : zbb Try.prog 7 lit21S := by
 refine zfr (S := noS) (T := ty) zbf ty_ok zbs Try.func7 (c := Try.f7.body.getD .skip) (by kernel_rfl) (by kernel_rfl) (fun xs pins hp _ => ?_)
 unfold lit21S at hp ⊢
 split at hp
 · rename_i xs f _
   obtain ⟨hL,l,rfl⟩ := hp
   rw [List.length_map] at hL
   have hle : (l.map cmA).length = l.length := by simp
   rw [map_cm]
   refine ⟨by simp,?_⟩
   unfold Try.f7
   by_cases hn : 30 < l.length
   · have d1 : decide ((30 : Int) < (l.length : Int)) = true := decide_eq_true (by omega)
     have hno : decide (lit21L l) = false := decide_eq_false (fun h => by have := h.1; omega)
     rw [hno]
     simp only [go_sem,coe,zaa,Nat.reduceAdd,Nat.reduceSub,Nat.reduceMul,Int.reduceToNat,reduceCtorEq,↓reduceIte,Int.reducePow,Nat.reducePow,Int.reduceMod,Nat.reduceLeDiff,Int.reduceLE,Int.reduceNe,Int.reduceEq,Nat.reduceEqDiff,Nat.reduceLT,Nat.reduceBEq,ty,noS,hle,d1]
     exact zcc 2 rfl
   · have d1 : decide ((30 : Int) < (l.length : Int)) = false := decide_eq_false (by omega)
     simp only [go_sem,coe,zaa,Nat.reduceAdd,Nat.reduceSub,Nat.reduceMul,Int.reduceToNat,reduceCtorEq,↓reduceIte,Int.reducePow,Nat.reducePow,Int.reduceMod,Nat.reduceLeDiff,Int.reduceLE,Int.reduceNe,Int.reduceEq,Nat.reduceEqDiff,Nat.reduceLT,Nat.reduceBEq,ty,noS,hle,d1]
     refine awp_loopW ⟨fun m σ => ∃ j : Nat,m = l.length - j ∧ j ≤ l.length ∧ (∀ r ∈ l.take j,lit21R r) ∧
       σ = ⟨[.sg 4 (l.map cmA) f,.junk,.w (.bool false),.w (.int .i64 j),.junk,.junk,.junk,.junk,.junk,.junk,.junk,.junk,.junk,.junk,.junk,.junk,.junk,.junk,.junk,.junk,.junk,.junk,.junk,.junk,.junk,.junk,.junk,.junk,.junk],[],4⟩,?_,?_⟩
     · refine ⟨_,_,zaf [0,1,2,3] rfl rfl rfl ?_ ?_,0,rfl,by omega,by simp,rfl⟩
       · simp only [ssT,zah,zai,setSlot,gOf,AV.ren,renL,Blk.ren,Ax.look,Ax.put,reduceCtorEq,↓reduceIte,Nat.reduceEqDiff,Nat.reduceLT,Nat.reduceAdd,List.length_append,List.length_cons,List.length_nil,Option.some.injEq]; try simp
       · simp only [ssT,zah,zai,setSlot,gOf,AV.ren,renL,Blk.ren,Ax.look,Ax.put,reduceCtorEq,↓reduceIte,Nat.reduceEqDiff,Nat.reduceLT,Nat.reduceAdd,List.length_append,List.length_cons,List.length_nil,Option.some.injEq]; try simp
     · rintro m σ ⟨j,rfl,hi,hall,rfl⟩
       by_cases hil : j < l.length
       · have d2 : decide ((j : Int) < l.length) = true := decide_eq_true (by omega)
         have e1 : ((j : Int) + 1 + 9223372036854775808) % 18446744073709551616 - 9223372036854775808 = ((j + 1 : Nat) : Int) := by omega
         have hs1 := slot_cm l j hil
         have hmem : l[j] ∈ l := List.getElem_mem hil
         have htk : l.take (j + 1) = l.take j ++ [l[j]] := List.take_succ_eq_append_getElem hil
         obtain ⟨r,hr⟩ : ∃ r,l[j] = r := ⟨_,rfl⟩
         rw [hr] at hs1 hmem htk
         obtain ⟨g,t,i,o⟩ := r
         have hs1 : slot (l.map cmA) j = .agg [.str g,.str t,.w (.int .i64 i),.w (.int .i64 o)] := hs1
         by_cases h0 : 60 < g.length
         · have d3 : decide ((60 : Int) < (g.length : Int)) = true := decide_eq_true (by omega)
           have hno : decide (lit21L l) = false := decide_eq_false (fun h => by have := (h.2 _ hmem).1; simp at this; omega)
           rw [hno]
           simp only [go_sem,coe,zaa,Nat.reduceAdd,Nat.reduceSub,Nat.reduceMul,Int.reduceToNat,reduceCtorEq,↓reduceIte,Int.reducePow,Nat.reducePow,Int.reduceMod,Nat.reduceLeDiff,Int.reduceLE,Int.reduceNe,Int.reduceEq,Nat.reduceEqDiff,Nat.reduceLT,Nat.reduceBEq,ty,noS,hle,d2,hs1,d3,Int.toNat_natCast]
           repeat (refine And.intro (by omega) ?_)
           refine ⟨_,Weak.refl _,?_⟩
           simp only [go_sem,coe,zaa,Nat.reduceAdd,Nat.reduceSub,Nat.reduceMul,Int.reduceToNat,reduceCtorEq,↓reduceIte,Int.reducePow,Nat.reducePow,Int.reduceMod,Nat.reduceLeDiff,Int.reduceLE,Int.reduceNe,Int.reduceEq,Nat.reduceEqDiff,Nat.reduceLT,Nat.reduceBEq,ty]
           exact zcc 2 rfl
         · have d3 : decide ((60 : Int) < (g.length : Int)) = false := decide_eq_false (by omega)
           by_cases h1 : 60 < t.length
           · have d4 : decide ((60 : Int) < (t.length : Int)) = true := decide_eq_true (by omega)
             have hno : decide (lit21L l) = false := decide_eq_false (fun h => by have := (h.2 _ hmem).2; simp at this; omega)
             rw [hno]
             simp only [go_sem,coe,zaa,Nat.reduceAdd,Nat.reduceSub,Nat.reduceMul,Int.reduceToNat,reduceCtorEq,↓reduceIte,Int.reducePow,Nat.reducePow,Int.reduceMod,Nat.reduceLeDiff,Int.reduceLE,Int.reduceNe,Int.reduceEq,Nat.reduceEqDiff,Nat.reduceLT,Nat.reduceBEq,ty,noS,hle,d2,hs1,d3,d4,Int.toNat_natCast]
             repeat (refine And.intro (by omega) ?_)
             refine ⟨_,Weak.refl _,?_⟩
             simp only [go_sem,coe,zaa,Nat.reduceAdd,Nat.reduceSub,Nat.reduceMul,Int.reduceToNat,reduceCtorEq,↓reduceIte,Int.reducePow,Nat.reducePow,Int.reduceMod,Nat.reduceLeDiff,Int.reduceLE,Int.reduceNe,Int.reduceEq,Nat.reduceEqDiff,Nat.reduceLT,Nat.reduceBEq,ty]
             exact zcc 2 rfl
           · have d4 : decide ((60 : Int) < (t.length : Int)) = false := decide_eq_false (by omega)
             simp only [go_sem,coe,zaa,Nat.reduceAdd,Nat.reduceSub,Nat.reduceMul,Int.reduceToNat,reduceCtorEq,↓reduceIte,Int.reducePow,Nat.reducePow,Int.reduceMod,Nat.reduceLeDiff,Int.reduceLE,Int.reduceNe,Int.reduceEq,Nat.reduceEqDiff,Nat.reduceLT,Nat.reduceBEq,ty,noS,hle,d2,hs1,e1,d3,d4,Int.toNat_natCast]
             repeat (refine And.intro (by omega) ?_)
             refine ⟨l.length - (j + 1),_,by omega,zaf [0,1,2,3] rfl rfl rfl ?_ ?_,j + 1,rfl,by omega,?_,rfl⟩
             · simp only [ssT,zah,zai,setSlot,gOf,AV.ren,renL,Blk.ren,Ax.look,Ax.put,reduceCtorEq,↓reduceIte,Nat.reduceEqDiff,Nat.reduceLT,Nat.reduceAdd,List.length_append,List.length_cons,List.length_nil,Option.some.injEq]; try simp
             · simp only [ssT,zah,zai,setSlot,gOf,AV.ren,renL,Blk.ren,Ax.look,Ax.put,reduceCtorEq,↓reduceIte,Nat.reduceEqDiff,Nat.reduceLT,Nat.reduceAdd,List.length_append,List.length_cons,List.length_nil,Option.some.injEq]; try simp
             · rw [htk]
               intro r hr
               rcases List.mem_append.1 hr with h | h
               · exact hall r h
               · obtain rfl := List.mem_singleton.1 h
                 exact ⟨by simp; omega,by simp; omega⟩
       · have d2 : decide ((j : Int) < l.length) = false := decide_eq_false (by omega)
         have hii : l.take j = l := List.take_of_length_le (by omega)
         rw [hii] at hall
         have hyes : decide (lit21L l) = true := decide_eq_true ⟨by omega,hall⟩
         rw [hyes]
         simp only [go_sem,coe,zaa,Nat.reduceAdd,Nat.reduceSub,Nat.reduceMul,Int.reduceToNat,reduceCtorEq,↓reduceIte,Int.reducePow,Nat.reducePow,Int.reduceMod,Nat.reduceLeDiff,Int.reduceLE,Int.reduceNe,Int.reduceEq,Nat.reduceEqDiff,Nat.reduceLT,Nat.reduceBEq,ty,noS,hle,d2]
         refine ⟨_,Weak.refl _,?_⟩
         simp only [go_sem,coe,zaa,Nat.reduceAdd,Nat.reduceSub,Nat.reduceMul,Int.reduceToNat,reduceCtorEq,↓reduceIte,Int.reducePow,Nat.reducePow,Int.reduceMod,Nat.reduceLeDiff,Int.reduceLE,Int.reduceNe,Int.reduceEq,Nat.reduceEqDiff,Nat.reduceLT,Nat.reduceBEq,ty]
         exact zcc 2 rfl
 · exact hp.elim
end
theorem all_cm21 : ∀ (xs : List AV),(∀ x ∈ xs,∃ r : Cm,x = cmA r) → ∃ rs : List Cm,xs = rs.map cmA
 | [],_ => ⟨[],rfl⟩
 | x :: xs,h => by
   obtain ⟨r,rfl⟩ := h x (by simp)
   obtain ⟨rs,rfl⟩ := all_cm21 xs (fun y hy => h y (by simp [hy]))
   exact ⟨r :: rs,rfl⟩
theorem arg_cm21 {x : AV} (h : Arg ty 6 27 x) : ∃ (l : List Cm) (f : Bool),x = .sg 4 (l.map cmA) f ∧ l.length ≤ 9223372036854775807 := by
 obtain ⟨i,ls,hi,hs,rfl⟩ := h
 simp only [ty] at hi
 injection hi with hi
 subst hi
 simp only [Shape,ty,ShapeF,isFlatI] at hs
 obtain ⟨xs,f1,rfl,hx,hxs⟩ := hs
 have hm : maxLen = 9223372036854775807 := by decide
 obtain ⟨es,rfl⟩ := all_cm21 xs (fun x hxm => by
   obtain ⟨l,⟨l0,r0,rfl,⟨m0,rfl,w0⟩,l1,r1,rfl,⟨m1,rfl,w1⟩,l2,r2,rfl,⟨m2,rfl,w2⟩,l3,r3,rfl,⟨m3,rfl,w3⟩,rfl⟩,_,rfl⟩ := hxs x hxm
   exact ⟨⟨m0,m1,m2,m3⟩,rfl⟩)
 rw [List.length_map] at hx
 exact ⟨es,f1,rfl,by omega⟩
end Go.Proofs.Ytnmomgcanfpigaa
namespace Go.Proofs.Ytnmomgcanfpigaa
open Ax
theorem fg_rvs (id s : Nat) (zs : List AV) : ∀ (l : List Bat),fgL id s zs (bfr l) = bfr l
 | [] => rfl
 | x :: l => by
   show AV.fg id s zs (bav x false) :: fgL id s zs (bfr l) = bav x false :: bfr l
   rw [fg_rvs id s zs l]
   rfl
theorem fg_app (id s : Nat) (zs : List AV) : ∀ (xs ys : List AV),fgL id s zs (xs ++ ys) = fgL id s zs xs ++ fgL id s zs ys
 | [],ys => rfl
 | x :: xs,ys => by
   show AV.fg id s zs x :: fgL id s zs (xs ++ ys) = AV.fg id s zs x :: (fgL id s zs xs ++ fgL id s zs ys)
   rw [fg_app id s zs xs ys]
theorem fg_cm (id s : Nat) (zs : List AV) : ∀ (l : List Cm),fgL id s zs (l.map cmA) = l.map cmA
 | [] => rfl
 | x :: l => by
   show AV.fg id s zs (cmA x) :: fgL id s zs (l.map cmA) = cmA x :: l.map cmA
   rw [fg_cm id s zs l]
   rfl
theorem ids_bfr : ∀ (l : List Bat),idsL (bfr l) = []
 | [] => rfl
 | x :: l => by
   show (bav x false).ids ++ idsL (bfr l) = []
   rw [ids_bfr l]
   rfl
theorem slot_bfr (l : List Bat) (i : Nat) (h : i < l.length) : slot (bfr l) i = bav l[i] false := by
 unfold bfr
 rw [slot_bvp _ i (by simpa using h)]
 simp [offB,bvp]
theorem sg_size21 {w : World} {loc : Ax.Loc} {v : Value} {s : Nat} (s' : Nat) {f : Bool} (h : R w loc (.sg s [] f) v) : R w loc (.sg s' [] f) v := by
 cases h with
 | sg _ _ _ a cap cs hd hs hc hl hx hh => exact .sg s' [] f a cap cs hd (by simp) hc hl hx hh
def smB (x : Bat) : Prop := x.rs.length ≤ 1 ∧ ∀ r ∈ x.rs,r.key.length ≤ 100 ∧ r.val.length ≤ 10
theorem sm_rc (T : Int) {c : Cm} (h : okC c) : (rcC T c).key.length ≤ 100 ∧ (rcC T c).val.length ≤ 10 := by
 have h1 := zby c.g c.t c.i c.o
 have hc : chkC c.g c.t c.i c.o = 0 := h
 have hz := zz_range c.o (by omega) (by omega)
 have l1 := zbq (2 * c.g.length) (by omega)
 have l2 := zbq (2 * c.t.length) (by omega)
 have l3 := zbq (zz c.o).toNat (by omega)
 refine ⟨?_,l3⟩
 show (kyL c.g c.t c.i).length ≤ 100
 unfold kyL zfd
 simp only [List.length_append,List.length_cons,List.length_nil]
 omega
theorem sm_btC (T : Int) : ∀ (cs : List Cm) (n : Nat),(∀ c ∈ cs,okC c) → ∀ x ∈ btC T n cs,smB x
 | [],n,_,x,hx => by simp [btC] at hx
 | c :: cs,n,h,x,hx => by
   simp only [btC,List.mem_cons] at hx
   rcases hx with rfl | hx
   · refine ⟨by simp,fun r hr => ?_⟩
     simp only [List.mem_singleton] at hr
     subst hr
     exact sm_rc T (h c (by simp))
   · exact sm_btC T cs (n + 1) (fun c' h' => h c' (by simp [h'])) x hx
theorem sm_clean (B : List Bat) (h : ∀ x ∈ B,smB x) : (∀ x ∈ clnL B 0 0,smB x) ∧ (clnL B 0 0).length ≤ B.length := by
 unfold clnL
 refine ⟨fun x hx => ?_,?_⟩
 · unfold clnM at hx
   rw [clnS_flat,List.nil_append] at hx
   obtain ⟨y,hy,hxy⟩ := List.mem_flatMap.1 hx
   split at hxy
   · simp at hxy
   · obtain rfl := List.mem_singleton.1 hxy
     obtain ⟨h1,h2⟩ := h y hy
     unfold clnB
     exact ⟨Nat.le_trans (List.length_filter_le _ _) h1,fun r hr => h2 r (List.mem_filter.1 hr).1⟩
 · have := clnM_len (lastK B) 0 0 B []
   unfold clnM
   simpa using this
theorem plB_len : ∀ (B : List Bat) (d : List Cm),(∀ x ∈ B,smB x) → (B.foldl plB d).length ≤ d.length + B.length
 | [],d,_ => by simp
 | x :: B,d,h => by
   have ih := plB_len B (plB d x) (fun y hy => h y (by simp [hy]))
   have h1 := (h x (by simp)).1
   have h2 := pls_len d x.rs
   have h3 : (plB d x).length ≤ d.length + x.rs.length := h2
   rw [List.foldl_cons,List.length_cons]
   omega
theorem plB_snoc (B : List Bat) (d : List Cm) (j : Nat) (h : j < B.length) : (B.take (j + 1)).foldl plB d = pls ((B.take j).foldl plB d) B[j].rs := by
 rw [List.take_succ_eq_append_getElem h,List.foldl_append]
 rfl
theorem sm_light {B : List Bat} (h : ∀ x ∈ B,smB x) (hn : B.length ≤ 8) : decide (((bfr B).length : Int) ≤ 8 ∧ ∀ b ∈ B,lightB b) = true := by
 refine decide_eq_true ⟨by rw [len_bfr]; omega,fun b hb => ⟨by have := (h b hb).1; omega,fun r hr => ?_⟩⟩
 have := (h b hb).2 r hr
 exact ⟨by omega,by omega⟩
def ccS : zal
 | [.sg 4 xs f,.w (.int .u8 T)],[] => ⟨(xs.length ≤ 9223372036854775807 ∧ ∃ l : List Cm,xs = l.map cmA) ∧ 0 ≤ T ∧ T ≤ 255,.w (.bool true),[]⟩
 | _,_ => zbg
def Scc21 (f : FuncId) : Option zal :=
 match f with
 | 9 => some yesS
 | 7 => some lit21S
 | 10 => some put21S
 | 21 => some PlayS
 | 28 => some cln17S
 | 27 => some equal21S
 | 25 => some as21S
 | 24 => some rsame21S
 | 29 => some lallS
 | _ => none
theorem Scc21_ok : Fns Try.prog Scc21 := by
 intro f s h
 unfold Scc21 at h
 split at h
 · injection h with h; subst h; exact ⟨⟨_,Try.func9,by kernel_rfl,by kernel_rfl⟩,aw21_sound⟩
 · injection h with h; subst h; exact ⟨⟨_,Try.func7,by kernel_rfl,by kernel_rfl⟩,lit21_sound⟩
 · injection h with h; subst h; exact ⟨⟨_,Try.func10,by kernel_rfl,by kernel_rfl⟩,put21_sound⟩
 · injection h with h; subst h; exact ⟨⟨_,Try.func21,by kernel_rfl,by kernel_rfl⟩,Play_sound⟩
 · injection h with h; subst h; exact ⟨⟨_,Try.func28,by kernel_rfl,by kernel_rfl⟩,cln17_sound⟩
 · injection h with h; subst h; exact ⟨⟨_,Try.func27,by kernel_rfl,by kernel_rfl⟩,same21_sound⟩
 · injection h with h; subst h; exact ⟨⟨_,Try.func25,by kernel_rfl,by kernel_rfl⟩,as21_sound⟩
 · injection h with h; subst h; exact ⟨⟨_,Try.func24,by kernel_rfl,by kernel_rfl⟩,rsame21_sound⟩
 · injection h with h; subst h; exact ⟨⟨_,Try.func29,by kernel_rfl,by kernel_rfl⟩,lall_sound⟩
 · cases h
theorem bts_take (T : Int) (l : List Cm) (j : Nat) (h : j < l.length) : btC T 0 (l.take (j + 1)) = btC T 0 (l.take j) ++ [⟨(j : Int),1,0,0,0,[rcC T l[j]]⟩] := by
 rw [List.take_succ_eq_append_getElem h,btC_snoc,List.length_take,Nat.zero_add,Nat.min_eq_left (by omega)]
section
set_option maxRecDepth 100000
set_option maxHeartbeats 8000000 in
theorem cc_law : zbb Try.prog 6 ccS := by
 refine zfr (S := Scc21) (T := ty) zbf ty_ok Scc21_ok Try.func6 (c := Try.f6.body.getD .skip) (by kernel_rfl) (by kernel_rfl) (fun xs pins hp _ => ?_)
 unfold ccS at hp ⊢
 split at hp
 · rename_i xs f T _
   obtain ⟨⟨hL,l,rfl⟩,hT0,hT1⟩ := hp
   rw [List.length_map] at hL
   have hle : (l.map cmA).length = l.length := by simp
   have hex : ∃ k : List Cm,l.map cmA = k.map cmA := ⟨l,rfl⟩
   have cF2 : ∀ (l : List Cm) (f : Bool),coe ty 27 (.sg 4 (l.map cmA) f) = .sg 4 (l.map cmA) f := fun l f => by cases l <;> rfl
   have cF1 : ∀ (l : List Cm) (f : Bool),coe ty 48 (.sg 4 (l.map cmA) f) = .sg 4 (l.map cmA) f := fun l f => by cases l <;> rfl
   have hwT : (T + 9223372036854775808) % 18446744073709551616 - 9223372036854775808 = T := by omega
   have ht : top = 4294967296 := rfl
   refine ⟨by simp,?_⟩
   unfold Try.f6
   obtain ⟨L1,hL1⟩ : ∃ L1,decide (lit21L l) = L1 := ⟨_,rfl⟩
   cases L1 with
   | false =>
     simp only [go_sem,zaa,Nat.reduceAdd,Nat.reduceSub,Nat.reduceMul,Int.reduceToNat,reduceCtorEq,↓reduceIte,Int.reducePow,Nat.reducePow,Int.reduceMod,Nat.reduceLeDiff,Int.reduceLE,Int.reduceNe,Int.reduceEq,Nat.reduceEqDiff,Nat.reduceLT,Nat.reduceBEq,ty,Bool.not_true,Bool.not_false,Scc21,yesS,lit21S,cF2,hle,hL,hex,zbr,hL1]
     exact w21_ends 4 rfl
   | true =>
     by_cases h8 : 8 < l.length
     · have d8 : decide ((8 : Int) < (l.length : Int)) = true := decide_eq_true (by omega)
       simp only [go_sem,zaa,Nat.reduceAdd,Nat.reduceSub,Nat.reduceMul,Int.reduceToNat,reduceCtorEq,↓reduceIte,Int.reducePow,Nat.reducePow,Int.reduceMod,Nat.reduceLeDiff,Int.reduceLE,Int.reduceNe,Int.reduceEq,Nat.reduceEqDiff,Nat.reduceLT,Nat.reduceBEq,ty,Bool.not_true,Bool.not_false,Scc21,yesS,lit21S,cF2,hle,hL,hex,zbr,hL1,d8]
       exact w21_ends 4 rfl
     · have d8 : decide ((8 : Int) < (l.length : Int)) = false := decide_eq_false (by omega)
       simp only [go_sem,zaa,Nat.reduceAdd,Nat.reduceSub,Nat.reduceMul,Int.reduceToNat,reduceCtorEq,↓reduceIte,Int.reducePow,Nat.reducePow,Int.reduceMod,Nat.reduceLeDiff,Int.reduceLE,Int.reduceNe,Int.reduceEq,Nat.reduceEqDiff,Nat.reduceLT,Nat.reduceBEq,ty,Bool.not_true,Bool.not_false,Scc21,yesS,lit21S,cF2,hle,hL,hex,zbr,hL1,d8]
       refine awp_loopW ⟨fun m σ => ∃ j : Nat,m = l.length - j ∧ j ≤ l.length ∧ (∀ c ∈ l.take j,okC c) ∧
         σ = ⟨[.sg 4 (l.map cmA) f,.w (.int .u8 T),.junk,.junk,.w (.bool false),.ms 4 6 0 j,.w (.int .i64 j),.junk,.junk,.junk,.junk,.junk,.junk,.junk,.junk,.junk,.junk,.junk,.junk,.junk,.junk,.junk,.junk,.junk,.junk,.junk,.junk,.junk,.junk,.junk,.junk,.junk,.junk,.junk,.junk,.junk,.junk,.junk,.junk,.junk,.junk,.junk,.junk,.junk,.junk,.junk,.junk,.junk,.junk,.junk,.junk,.junk,.junk,.junk,.junk,.junk,.junk,.junk,.junk,.junk,.junk,.junk,.junk,.junk,.junk,.junk,.junk,.junk,.junk,.junk,.junk,.junk,.junk,.junk,.junk,.junk,.junk,.junk,.junk,.junk,.junk,.junk,.junk,.junk,.junk,.junk,.junk,.junk,.junk,.junk,.junk,.junk],[(4,.g 6 (bfr (btC T 0 (l.take j))))],5⟩,?_,?_⟩
       · refine ⟨_,_,(weak_nil 5 6 (.g 6 []) ⟨by decide,rfl⟩ (by exact trivial)).trans (zaf [0,1,2,3,92] rfl rfl rfl ?_ ?_),0,rfl,by omega,by simp,rfl⟩
         · simp only [ssT,zah,zai,setSlot,gOf,AV.ren,renL,Blk.ren,Ax.look,Ax.put,reduceCtorEq,↓reduceIte,Nat.reduceEqDiff,Nat.reduceLT,Nat.reduceAdd,List.length_append,List.length_cons,List.length_nil,Option.some.injEq]; try simp
           try rfl
         · simp only [ssT,zah,zai,setSlot,gOf,AV.ren,renL,Blk.ren,Ax.look,Ax.put,reduceCtorEq,↓reduceIte,Nat.reduceEqDiff,Nat.reduceLT,Nat.reduceAdd,List.length_append,List.length_cons,List.length_nil,Option.some.injEq]; try simp [renL]
           try rfl
       · rintro m σ ⟨j,rfl,hj,hok,rfl⟩
         have e1 : ((j : Int) + 1 + 9223372036854775808) % 18446744073709551616 - 9223372036854775808 = ((j + 1 : Nat) : Int) := by omega
         have hlb : (bfr (btC T 0 (l.take j))).length = j := by rw [len_bfr,btC_len,List.length_take]; omega
         by_cases hjl : j < l.length
         · have d1 : decide ((j : Int) < l.length) = true := decide_eq_true (by omega)
           have hs1 := slot_cm l j hjl
           have hbt := bts_take T l j hjl
           have htk : l.take (j + 1) = l.take j ++ [l[j]] := List.take_succ_eq_append_getElem hjl
           obtain ⟨r,hr⟩ : ∃ r,l[j] = r := ⟨_,rfl⟩
           rw [hr] at hs1 hbt htk
           obtain ⟨g,t,i,o⟩ := r
           have hs1 : slot (l.map cmA) j = .agg [.str g,.str t,.w (.int .i64 i),.w (.int .i64 o)] := hs1
           by_cases h0 : kyE g t i o T = 0
           · have ka := kyA_pos (d := false) (v := putU (zz o).toNat) h0
             have hbf := bfr_snoc (btC T 0 (l.take j)) ⟨(j : Int),1,0,0,0,[rcC T ⟨g,t,i,o⟩]⟩
             rw [← hbt] at hbf
             have hbv : bav ⟨(j : Int),1,0,0,0,[rcC T ⟨g,t,i,o⟩]⟩ false = .agg [.w (.int .i64 j),.w (.int .i64 1),.w (.int .i64 0),.w (.int .i64 0),.w (.int .i64 0),.sg 6 [.agg [.w (.int .i64 0),.w (.int .i64 T),.w (.bool true),.str (kyL g t i),.w (.bool false),.str (putU (zz o).toNat)]] false] := rfl
             generalize hV : putU (zz o).toNat = V at *
             simp only [go_sem,coe,zaa,Nat.reduceAdd,Nat.reduceSub,Nat.reduceMul,Int.reduceToNat,reduceCtorEq,↓reduceIte,Int.reducePow,Nat.reducePow,Int.reduceMod,Nat.reduceLeDiff,Int.reduceLE,Int.reduceNe,Int.reduceEq,Nat.reduceEqDiff,Nat.reduceLT,Nat.reduceBEq,ty,Scc21,put21S,hle,hlb,d1,e1,hs1,hwT,hV,ka,h0,Int.toNat_natCast,ids_bfr]
             refine ⟨⟨by omega,by omega⟩,by omega,l.length - (j + 1),_,by omega,(weak_fg 181 6 45 [.agg [.w (.int .i64 0),.w (.int .i64 T),.w (.bool true),.str (kyL g t i),.w (.bool false),.str V]] rfl rfl (by simp [slot,AV.ids])).trans (zaf [0,1,2,3,205] rfl rfl rfl ?_ ?_),j + 1,rfl,by omega,?_,rfl⟩
             · simp only [fgL,AV.fg,Nat.reduceBEq,cond_true,cond_false,fg_cm]
               simp only [ssT,zah,zai,setSlot,gOf,AV.ren,renL,Blk.ren,Ax.look,Ax.put,reduceCtorEq,↓reduceIte,Nat.reduceEqDiff,Nat.reduceLT,Nat.reduceAdd,List.length_append,List.length_cons,List.length_nil,Option.some.injEq]
             · simp only [fgL,fgH,AV.fg,Blk.fg,Nat.reduceBEq,cond_true,cond_false,fg_app,fg_rvs,beq_self_eq_true,Bool.true_and]
               simp only [ssT,zah,zai,setSlot,gOf,AV.ren,renL,Blk.ren,Ax.look,Ax.put,reduceCtorEq,↓reduceIte,Nat.reduceEqDiff,Nat.reduceLT,Nat.reduceAdd,List.length_append,List.length_cons,List.length_nil,Option.some.injEq,zeg]
               rw [hbf,hbv]
               rfl
             · rw [htk]
               intro c hc
               rcases List.mem_append.1 hc with h | h
               · exact hok c h
               · obtain rfl := List.mem_singleton.1 h
                 exact kyE_zero21 h0
           · have ka := kyA_neg (d := false) (v := putU (zz o).toNat) h0
             have d0 : decide (kyE g t i o T = 0) = false := decide_eq_false h0
             generalize hV : putU (zz o).toNat = V at *
             simp only [go_sem,coe,zaa,Nat.reduceAdd,Nat.reduceSub,Nat.reduceMul,Int.reduceToNat,reduceCtorEq,↓reduceIte,Int.reducePow,Nat.reducePow,Int.reduceMod,Nat.reduceLeDiff,Int.reduceLE,Int.reduceNe,Int.reduceEq,Nat.reduceEqDiff,Nat.reduceLT,Nat.reduceBEq,ty,Scc21,put21S,yesS,hle,d1,hs1,hwT,hV,ka,zR21,d0,Int.toNat_natCast,Bool.not_false]
             refine ⟨⟨by omega,by omega⟩,_,Weak.refl _,?_⟩
             simp only [go_sem,coe,zaa,Nat.reduceAdd,Nat.reduceSub,Nat.reduceMul,Int.reduceToNat,reduceCtorEq,↓reduceIte,Int.reducePow,Nat.reducePow,Int.reduceMod,Nat.reduceLeDiff,Int.reduceLE,Int.reduceNe,Int.reduceEq,Nat.reduceEqDiff,Nat.reduceLT,Nat.reduceBEq,ty,Scc21,yesS]
             exact w21_ends 4 rfl
         · have d1 : decide ((j : Int) < l.length) = false := decide_eq_false (by omega)
           have hii : l.take j = l := List.take_of_length_le (by omega)
           rw [hii] at hok hlb ⊢
           simp only [go_sem,coe,zaa,Nat.reduceAdd,Nat.reduceSub,Nat.reduceMul,Int.reduceToNat,reduceCtorEq,↓reduceIte,Int.reducePow,Nat.reducePow,Int.reduceMod,Nat.reduceLeDiff,Int.reduceLE,Int.reduceNe,Int.reduceEq,Nat.reduceEqDiff,Nat.reduceLT,Nat.reduceBEq,ty,Scc21,hle,d1]
           have hlb2 : (bfr (btC T 0 l)).length = l.length := by rw [len_bfr,btC_len]
           have hdle : decide (0 + l.length ≤ (bfr (btC T 0 l)).length) = true := decide_eq_true (by omega)
           have htk : (bfr (btC T 0 l)).take l.length = bfr (btC T 0 l) := List.take_of_length_le (by omega)
           refine ⟨_,weak_fg 4 6 5 (bfr (btC T 0 l)) rfl (closed_bfr _) (by simp [slot,AV.ids]),?_⟩
           simp only [fgL,fgH,AV.fg,Blk.fg,Nat.reduceBEq,cond_true,cond_false,hdle,Bool.and_true,beq_self_eq_true,Bool.true_and,List.drop_zero,htk,fg_cm]
           have hl2 : j = l.length := by omega
           subst hl2
           obtain ⟨B,hB⟩ : ∃ B,btC T 0 l = B := ⟨_,rfl⟩
           have hsB : ∀ x ∈ B,smB x := by rw [← hB]; exact sm_btC T l 0 hok
           have hBl : B.length = l.length := by rw [← hB]; exact btC_len T l 0
           have hsame := compact_same T hT0 (by omega) l (by omega) hok
           rw [hB] at hlb hlb2 hdle htk hsame ⊢
           obtain ⟨hsC,hCl⟩ := sm_clean B hsB
           obtain ⟨C,hC⟩ : ∃ C,clnL B 0 0 = C := ⟨_,rfl⟩
           rw [hC] at hsC hCl hsame
           have hA := plB_len B [] hsB
           simp only [List.length_nil,Nat.zero_add] at hA
           have hdl : decide (l.length ≤ (bfr B).length) = true := decide_eq_true (by omega)
           have hla : ∀ (D : List Bat),(∀ x ∈ D,smB x) → D.length ≤ l.length → ∀ j,((D.take j).foldl plB []).length ≤ 8 := fun D hD hDl j => by
             have h1 := plB_len (D.take j) [] (fun x hx => hD x (List.mem_of_mem_take hx))
             have h2 : (D.take j).length ≤ D.length := List.length_take_le' ..
             simp only [List.length_nil] at h1
             omega
           simp only [go_sem,coe,zaa,Nat.reduceAdd,Nat.reduceSub,Nat.reduceMul,Int.reduceToNat,reduceCtorEq,↓reduceIte,Int.reducePow,Nat.reducePow,Int.reduceMod,Nat.reduceLeDiff,Int.reduceLE,Int.reduceNe,Int.reduceEq,Nat.reduceEqDiff,Nat.reduceLT,Nat.reduceBEq,ty,Scc21,hle,hdl,htk,cond_true]
           refine awp_loopW ⟨fun m σ => ∃ (j : Nat) (fa : Bool),m = B.length - j ∧ j ≤ B.length ∧
             σ = ⟨[.sg 4 (l.map cmA) f,.w (.int .u8 T),.junk,.junk,.w (.bool false),.sg 6 (bfr B) false,.junk,.junk,.junk,.sg 4 (((B.take j).foldl plB []).map cmA) fa,.sg 4 ((([] : List Bat).foldl plB []).map cmA) true,.w (.int .i64 j),.junk,.junk,.junk,.junk,.junk,.junk,.junk,.junk,.junk,.junk,.junk,.junk,.junk,.junk,.junk,.junk,.junk,.junk,.junk,.junk,.junk,.junk,.junk,.junk,.junk,.junk,.junk,.junk,.junk,.junk,.junk,.junk,.junk,.junk,.junk,.junk,.junk,.junk,.junk,.junk,.junk,.junk,.junk,.junk,.junk,.junk,.junk,.junk,.junk,.junk,.junk,.junk,.junk,.junk,.junk,.junk,.junk,.junk,.junk,.junk,.junk,.junk,.junk,.junk,.junk,.junk,.junk,.junk,.junk,.junk,.junk,.junk,.junk,.junk,.junk,.junk,.junk,.junk,.junk,.junk],[],4⟩,?_,?_⟩
           · refine ⟨_,_,(zdc 9 (.sg 4 [] true) (fun w loc v h => by exact sg_size21 4 h)).trans ((zdc 10 (.sg 4 [] true) (fun w loc v h => by exact sg_size21 4 h)).trans (zaf [0,1,2,3] rfl rfl rfl ?_ ?_)),0,true,rfl,by omega,rfl⟩
             · simp only [setSlot]
               simp only [ssT,zah,zai,setSlot,gOf,AV.ren,renL,Blk.ren,Ax.look,Ax.put,reduceCtorEq,↓reduceIte,Nat.reduceEqDiff,Nat.reduceLT,Nat.reduceAdd,List.length_append,List.length_cons,List.length_nil,Option.some.injEq,zeg]; try simp
             · simp only [ssT,zah,zai,setSlot,gOf,AV.ren,renL,Blk.ren,Ax.look,Ax.put,reduceCtorEq,↓reduceIte,Nat.reduceEqDiff,Nat.reduceLT,Nat.reduceAdd,List.length_append,List.length_cons,List.length_nil,Option.some.injEq]; try simp
           · rintro m σ ⟨j,fa,rfl,hjB,rfl⟩
             have e2 : ((j : Int) + 1 + 9223372036854775808) % 18446744073709551616 - 9223372036854775808 = ((j + 1 : Nat) : Int) := by omega
             have hll := hla B hsB (by omega) j
             have hstep := plB_snoc B [] j
             by_cases hjB2 : j < B.length
             · have d2 : decide ((j : Int) < (l.length : Int)) = true := decide_eq_true (by omega)
               have hs2 := slot_bfr B j hjB2
               have hb := hsB B[j] (List.getElem_mem hjB2)
               have hstep := hstep hjB2
               obtain ⟨x,hx⟩ : ∃ x,B[j] = x := ⟨_,rfl⟩
               rw [hx] at hs2 hb hstep
               obtain ⟨b0,b1,b2,b3,b4,rs⟩ := x
               have hs2 : slot (bfr B) j = .agg [.w (.int .i64 b0),.w (.int .i64 b1),.w (.int .i64 b2),.w (.int .i64 b3),.w (.int .i64 b4),.sg 6 (rs.map rv) false] := hs2
               obtain ⟨hb0,hb1⟩ := hb
               simp only at hb0 hb1 hstep
               obtain ⟨A,hA⟩ : ∃ A,(B.take j).foldl plB [] = A := ⟨_,rfl⟩
               rw [hA] at hll hstep ⊢
               have hc1 : A.length + rs.length ≤ 999999 := by omega
               have hexA : ∃ k : List Cm,A.map cmA = k.map cmA := ⟨A,rfl⟩
               have hexq : ∃ k : List Rec,rs.map rv = k.map rv ∧ ∀ r ∈ k,r.key.length ≤ 1000000 ∧ r.val.length ≤ 1000000 := ⟨rs,rfl,fun r hr => ⟨by have := (hb1 r hr).1; omega,by have := (hb1 r hr).2; omega⟩⟩
               have hAe : (A.map cmA).length = A.length := by simp
               have hre : (rs.map rv).length = rs.length := by simp
               simp only [go_sem,zaa,Nat.reduceAdd,Nat.reduceSub,Nat.reduceMul,Int.reduceToNat,reduceCtorEq,↓reduceIte,Int.reducePow,Nat.reducePow,Int.reduceMod,Nat.reduceLeDiff,Int.reduceLE,Int.reduceNe,Int.reduceEq,Nat.reduceEqDiff,Nat.reduceLT,Nat.reduceBEq,ty,Scc21,PlayS,cF1,hlb,d2,e2,hs2,hAe,hre,hc1,hexA,hexq,zbr,zay,Int.toNat_natCast]
               refine ⟨⟨by omega,by omega⟩,B.length - (j + 1),_,by omega,zaf [0,1,2,3] rfl rfl rfl ?_ ?_,j + 1,false,rfl,by omega,by rw [hstep]⟩
               · simp only [ssT,zah,zai,setSlot,gOf,AV.ren,renL,Blk.ren,Ax.look,Ax.put,reduceCtorEq,↓reduceIte,Nat.reduceEqDiff,Nat.reduceLT,Nat.reduceAdd,List.length_append,List.length_cons,List.length_nil,Option.some.injEq,zeg]; try simp
               · simp only [ssT,zah,zai,setSlot,gOf,AV.ren,renL,Blk.ren,Ax.look,Ax.put,reduceCtorEq,↓reduceIte,Nat.reduceEqDiff,Nat.reduceLT,Nat.reduceAdd,List.length_append,List.length_cons,List.length_nil,Option.some.injEq]; try simp
             · have d2 : decide ((j : Int) < (l.length : Int)) = false := decide_eq_false (by omega)
               have hii2 : B.take j = B := List.take_of_length_le (by omega)
               have hexB : ∃ es : List (Bat × Bool),bfr B = es.map bvp ∧ ∀ p ∈ es,p.1.rs.length ≤ 1000000 := ⟨B.map offB,rfl,fun p hp => by
                 obtain ⟨x,hx,rfl⟩ := List.mem_map.1 hp
                 have := (hsB x hx).1
                 show x.rs.length ≤ 1000000
                 omega⟩
               have hexC : isBs (bfr C) := ⟨C.map offB,rfl,fun p hp => by
                 obtain ⟨x,hx,rfl⟩ := List.mem_map.1 hp
                 have := (hsC x hx).1
                 show x.rs.length ≤ 9223372036854775807
                 omega⟩
               have hl1 : l.length ≤ 1000000 := by omega
               have hlC : (bfr C).length = C.length := len_bfr C
               have cB : ∀ (D : List Bat),coe ty 60 (.sg 6 (bfr D) false) = .sg 6 (bfr D) false := fun D => by cases D <;> rfl
               rw [hii2]
               simp only [go_sem,zaa,Nat.reduceAdd,Nat.reduceSub,Nat.reduceMul,Int.reduceToNat,reduceCtorEq,↓reduceIte,Int.reducePow,Nat.reducePow,Int.reduceMod,Nat.reduceLeDiff,Int.reduceLE,Int.reduceNe,Int.reduceEq,Nat.reduceEqDiff,Nat.reduceLT,Nat.reduceBEq,ty,Scc21,hlb,d2]
               refine ⟨_,Weak.refl _,?_⟩
               simp only [go_sem,zaa,Nat.reduceAdd,Nat.reduceSub,Nat.reduceMul,Int.reduceToNat,reduceCtorEq,↓reduceIte,Int.reducePow,Nat.reducePow,Int.reduceMod,Nat.reduceLeDiff,Int.reduceLE,Int.reduceNe,Int.reduceEq,Nat.reduceEqDiff,Nat.reduceLT,Nat.reduceBEq,ty,Scc21,cln17S,hlb,hlb2,cB,hl1,hexB,ubat_bfr,hC]
               refine awp_loopW ⟨fun m σ => ∃ (j : Nat) (fb : Bool),m = C.length - j ∧ j ≤ C.length ∧
                 σ = ⟨[.sg 4 (l.map cmA) f,.w (.int .u8 T),.junk,.junk,.w (.bool false),.sg 6 (bfr B) false,.junk,.junk,.junk,.sg 4 ((B.foldl plB []).map cmA) fa,.sg 4 (((C.take j).foldl plB []).map cmA) fb,.junk,.sg 6 (bfr C) false,.w (.int .i64 j),.junk,.junk,.junk,.junk,.junk,.junk,.junk,.junk,.junk,.junk,.junk,.junk,.junk,.junk,.junk,.junk,.junk,.junk,.junk,.junk,.junk,.junk,.junk,.junk,.junk,.junk,.junk,.junk,.junk,.junk,.junk,.junk,.junk,.junk,.junk,.junk,.junk,.junk,.junk,.junk,.junk,.junk,.junk,.junk,.junk,.junk,.junk,.junk,.junk,.junk,.junk,.junk,.junk,.junk,.junk,.junk,.junk,.junk,.junk,.junk,.junk,.junk,.junk,.junk,.junk,.junk,.junk,.junk,.junk,.junk,.junk,.junk,.junk,.junk,.junk,.junk,.junk,.junk],[],4⟩,?_,?_⟩
               · refine ⟨_,_,zaf [0,1,2,3] rfl rfl rfl ?_ ?_,0,true,rfl,by omega,rfl⟩
                 · simp only [ssT,zah,zai,setSlot,gOf,AV.ren,renL,Blk.ren,Ax.look,Ax.put,reduceCtorEq,↓reduceIte,Nat.reduceEqDiff,Nat.reduceLT,Nat.reduceAdd,List.length_append,List.length_cons,List.length_nil,Option.some.injEq,zeg]; try simp
                 · simp only [ssT,zah,zai,setSlot,gOf,AV.ren,renL,Blk.ren,Ax.look,Ax.put,reduceCtorEq,↓reduceIte,Nat.reduceEqDiff,Nat.reduceLT,Nat.reduceAdd,List.length_append,List.length_cons,List.length_nil,Option.some.injEq]; try simp
               · rintro m σ ⟨j,fb,rfl,hjC,rfl⟩
                 have e2 : ((j : Int) + 1 + 9223372036854775808) % 18446744073709551616 - 9223372036854775808 = ((j + 1 : Nat) : Int) := by omega
                 have hll := hla C hsC (by omega) j
                 have hstep := plB_snoc C [] j
                 by_cases hjC2 : j < C.length
                 · have d2 : decide ((j : Int) < (C.length : Int)) = true := decide_eq_true (by omega)
                   have hs2 := slot_bfr C j hjC2
                   have hb := hsC C[j] (List.getElem_mem hjC2)
                   have hstep := hstep hjC2
                   obtain ⟨x,hx⟩ : ∃ x,C[j] = x := ⟨_,rfl⟩
                   rw [hx] at hs2 hb hstep
                   obtain ⟨b0,b1,b2,b3,b4,rs⟩ := x
                   have hs2 : slot (bfr C) j = .agg [.w (.int .i64 b0),.w (.int .i64 b1),.w (.int .i64 b2),.w (.int .i64 b3),.w (.int .i64 b4),.sg 6 (rs.map rv) false] := hs2
                   obtain ⟨hb0,hb1⟩ := hb
                   simp only at hb0 hb1 hstep
                   obtain ⟨A,hA⟩ : ∃ A,(C.take j).foldl plB [] = A := ⟨_,rfl⟩
                   obtain ⟨A0,hA0⟩ : ∃ A0,B.foldl plB [] = A0 := ⟨_,rfl⟩
                   rw [hA] at hll hstep ⊢
                   rw [hA0]
                   have hc1 : A.length + rs.length ≤ 999999 := by omega
                   have hexA : ∃ k : List Cm,A.map cmA = k.map cmA := ⟨A,rfl⟩
                   have hexq : ∃ k : List Rec,rs.map rv = k.map rv ∧ ∀ r ∈ k,r.key.length ≤ 1000000 ∧ r.val.length ≤ 1000000 := ⟨rs,rfl,fun r hr => ⟨by have := (hb1 r hr).1; omega,by have := (hb1 r hr).2; omega⟩⟩
                   have hAe : (A.map cmA).length = A.length := by simp
                   have hre : (rs.map rv).length = rs.length := by simp
                   simp only [go_sem,zaa,Nat.reduceAdd,Nat.reduceSub,Nat.reduceMul,Int.reduceToNat,reduceCtorEq,↓reduceIte,Int.reducePow,Nat.reducePow,Int.reduceMod,Nat.reduceLeDiff,Int.reduceLE,Int.reduceNe,Int.reduceEq,Nat.reduceEqDiff,Nat.reduceLT,Nat.reduceBEq,ty,Scc21,PlayS,cF1,hlC,d2,e2,hs2,hAe,hre,hc1,hexA,hexq,zbr,zay,Int.toNat_natCast]
                   refine ⟨⟨by omega,by omega⟩,C.length - (j + 1),_,by omega,zaf [0,1,2,3] rfl rfl rfl ?_ ?_,j + 1,false,rfl,by omega,by rw [hstep]⟩
                   · simp only [ssT,zah,zai,setSlot,gOf,AV.ren,renL,Blk.ren,Ax.look,Ax.put,reduceCtorEq,↓reduceIte,Nat.reduceEqDiff,Nat.reduceLT,Nat.reduceAdd,List.length_append,List.length_cons,List.length_nil,Option.some.injEq,zeg]; try simp
                   · simp only [ssT,zah,zai,setSlot,gOf,AV.ren,renL,Blk.ren,Ax.look,Ax.put,reduceCtorEq,↓reduceIte,Nat.reduceEqDiff,Nat.reduceLT,Nat.reduceAdd,List.length_append,List.length_cons,List.length_nil,Option.some.injEq]; try simp
                 · have d2 : decide ((j : Int) < (C.length : Int)) = false := decide_eq_false (by omega)
                   have hii3 : C.take j = C := List.take_of_length_le (by omega)
                   have hlt := sm_light hsC (by omega)
                   rw [hlC] at hlt
                   rw [hii3,hsame]
                   have hlA := hla B hsB (by omega) B.length
                   rw [List.take_length] at hlA
                   obtain ⟨A,hA⟩ : ∃ A,B.foldl plB [] = A := ⟨_,rfl⟩
                   rw [hA] at hlA ⊢
                   have hAe : (A.map cmA).length = A.length := by simp
                   have hexA : ∃ k : List Cm,A.map cmA = k.map cmA := ⟨A,rfl⟩
                   have a1 : A.length ≤ 1000000 := by omega
                   have a2 : A.length ≤ 9223372036854775807 := by omega
                   have a3 : C.length ≤ 9223372036854775807 := by omega
                   have q1 : decide (A = A) = true := decide_eq_true rfl
                   simp only [go_sem,zaa,Nat.reduceAdd,Nat.reduceSub,Nat.reduceMul,Int.reduceToNat,reduceCtorEq,↓reduceIte,Int.reducePow,Nat.reducePow,Int.reduceMod,Nat.reduceLeDiff,Int.reduceLE,Int.reduceNe,Int.reduceEq,Nat.reduceEqDiff,Nat.reduceLT,Nat.reduceBEq,ty,Scc21,hlC,d2]
                   refine ⟨_,Weak.refl _,?_⟩
                   simp only [go_sem,zaa,Nat.reduceAdd,Nat.reduceSub,Nat.reduceMul,Int.reduceToNat,reduceCtorEq,↓reduceIte,Int.reducePow,Nat.reducePow,Int.reduceMod,Nat.reduceLeDiff,Int.reduceLE,Int.reduceNe,Int.reduceEq,Nat.reduceEqDiff,Nat.reduceLT,Nat.reduceBEq,ty,Scc21,equal21S,as21S,rsame21S,lallS,yesS,cF1,cF2,cB,hAe,hlC,hexA,hexC,a1,a2,a3,q1,hlt,zbr,ubat_bfr]
                   exact w21_ends 4 rfl
 · exact hp.elim
end
theorem arg_u8O {x : AV} (h : Arg ty 6 5 x) : ∃ n : Int,x = .w (.int .u8 n) ∧ 0 ≤ n ∧ n < 256 := by
 obtain ⟨i,ls,hi,hs,rfl⟩ := h
 simp only [ty] at hi
 injection hi with hi
 subst hi
 simp only [Shape,ty] at hs
 obtain ⟨m,rfl,hw⟩ := hs
 exact ⟨m,rfl,wf_u8 hw⟩
theorem cc_dom {x y : AV} (hx : Arg ty 6 27 x) (hy : Arg ty 6 5 y) : (ccS [x,y] []).p ∧ (ccS [x,y] []).x = .w (.bool true) := by
 obtain ⟨l,f,rfl,hl⟩ := arg_cm21 hx
 obtain ⟨n,rfl,h1,h2⟩ := arg_u8O hy
 exact ⟨⟨⟨by rw [List.length_map]; exact hl,l,rfl⟩,h1,by omega⟩,rfl⟩
end Go.Proofs.Ytnmomgcanfpigaa
