/- What the proofs of this seat stand on; it asks nothing. -/
import Derived.Test.YtihbcgbmlecpbaaYa09
set_option linter.unusedSimpArgs false
set_option linter.unusedVariables false
namespace Go.Proofs.Ytihbcgbmlecpbaa
open Ax
structure Rq where
 k : Int
 t : List UInt8
 i : Int
 p : Int
 c : Bool
 f : Bool
 o : Int
 m : Int
 w : Int
 g : List UInt8
 mb : List UInt8
 n : Int
 b : Bat
def rqA (q : Rq) (fl : Bool) : AV := .agg [.w (.int .u8 q.k),.str q.t,.w (.int .i64 q.i),.w (.int .i64 q.p),.w (.bool q.c),.w (.bool q.f),.w (.int .i64 q.o),.w (.int .i64 q.m),.w (.int .i64 q.w),.str q.g,.str q.mb,.w (.int .i64 q.n),
 .w (.int .i64 q.b.b),.w (.int .i64 q.b.c),.w (.int .i64 q.b.p),.w (.int .i64 q.b.e),.w (.int .i64 q.b.s),.sg 6 (q.b.rs.map rv) fl]
def zB : Bat := ⟨0,0,0,0,0,[]⟩
def zcq (k : Int) : List UInt8 :=
 if k = 0 then [116,112,99]
 else if k = 1 then [116]
 else if k = 2 then [116]
 else if k = 3 then [116,105,102,98]
 else if k = 4 then [116,105,111,109]
 else if k = 5 then [116,105,119]
 else if k = 6 then [103,107]
 else if k = 7 then [116,103,107,110]
 else if k = 8 then [103,107,110]
 else if k = 9 then [103,107]
 else if k = 10 then [116,105,111,103,107,110]
 else if k = 11 then [116,105,103]
 else []
def usesS : zak
 | [.w (.int .u8 k)],[] => ⟨True,.str (zcq k),[]⟩
 | _,_ => zbd
theorem knd_cases (k : Int) : (k ≠ 0 ∧ k ≠ 1 ∧ k ≠ 2 ∧ k ≠ 3 ∧ k ≠ 4 ∧ k ≠ 5 ∧ k ≠ 6 ∧ k ≠ 7 ∧ k ≠ 8 ∧ k ≠ 9 ∧ k ≠ 10 ∧ k ≠ 11) ∨ k = 0 ∨ k = 1 ∨ k = 2 ∨ k = 3 ∨ k = 4 ∨ k = 5 ∨ k = 6 ∨ k = 7 ∨ k = 8 ∨ k = 9 ∨ k = 10 ∨ k = 11 := by omega
theorem knd_le (k : Int) (h : 0 ≤ k ∧ k ≤ 11) : k = 0 ∨ k = 1 ∨ k = 2 ∨ k = 3 ∨ k = 4 ∨ k = 5 ∨ k = 6 ∨ k = 7 ∨ k = 8 ∨ k = 9 ∨ k = 10 ∨ k = 11 := by omega
def textF (c : Int) : Nat := if c = 116 then 1 else if c = 103 then 9 else if c = 107 then 10 else 0
def yesF (c : Int) : Nat := if c = 99 then 4 else if c = 102 then 5 else 0
def zfh (c : Int) : Nat := if c = 105 then 2 else if c = 112 then 3 else if c = 111 then 6 else if c = 109 then 7 else if c = 119 then 8 else if c = 110 then 11 else 0
def zdq (n : Nat) : AV := if n = 0 then .w (.pointer none) else .rf 0 18 0 n
def textO : zak
 | [.rf 0 18 0 0,.w (.int .i32 c)],[.g 18 [x]] => ⟨x.closed = true,zdq (textF c),[.g 18 [x]]⟩
 | _,_ => zbd
def yesO : zak
 | [.rf 0 18 0 0,.w (.int .i32 c)],[.g 18 [x]] => ⟨x.closed = true,zdq (yesF c),[.g 18 [x]]⟩
 | _,_ => zbd
def numbO : zak
 | [.rf 0 18 0 0,.w (.int .i32 c)],[.g 18 [x]] => ⟨x.closed = true,zdq (zfh c),[.g 18 [x]]⟩
 | _,_ => zbd
section
set_option maxRecDepth 100000
set_option maxHeartbeats 4000000 in
theorem uses22_sound : zaq Try.prog 44 usesS := by
 refine zal (S := noS) (T := ty) zau ty_ok zbs Try.func44 (c := Try.f44.body.getD .skip) (by kernel_rfl) (by kernel_rfl) (fun xs pins hp _ => ?_)
 unfold usesS at hp ⊢
 split at hp
 · rename_i k _
   refine ⟨by simp,?_⟩
   unfold Try.f44
   rcases knd_cases k with ⟨h0,h1,h2,h3,h4,h5,h6,h7,h8,h9,h10,h11⟩ | rfl | rfl | rfl | rfl | rfl | rfl | rfl | rfl | rfl | rfl | rfl | rfl
   · have hu : zcq k = [] := by unfold zcq; simp only [h0,h1,h2,h3,h4,h5,h6,h7,h8,h9,h10,h11,if_false]
     have d0 := decide_eq_false h0
     have d1 := decide_eq_false h1
     have d2 := decide_eq_false h2
     have d3 := decide_eq_false h3
     have d4 := decide_eq_false h4
     have d5 := decide_eq_false h5
     have d6 := decide_eq_false h6
     have d7 := decide_eq_false h7
     have d8 := decide_eq_false h8
     have d9 := decide_eq_false h9
     have d10 := decide_eq_false h10
     have d11 := decide_eq_false h11
     simp only [go_sem,coe,zaa,Nat.reduceAdd,Nat.reduceSub,Nat.reduceMul,Int.reduceToNat,reduceCtorEq,↓reduceIte,Int.reducePow,Nat.reducePow,Int.reduceMod,Nat.reduceLeDiff,Int.reduceLE,Int.reduceNe,Int.reduceEq,Nat.reduceEqDiff,Nat.reduceLT,Nat.reduceBEq,ty,noS,hu,d0,d1,d2,d3,d4,d5,d6,d7,d8,d9,d10,d11]
   all_goals simp only [go_sem,coe,zaa,Nat.reduceAdd,Nat.reduceSub,Nat.reduceMul,Int.reduceToNat,reduceCtorEq,↓reduceIte,Int.reducePow,Nat.reducePow,Int.reduceMod,Nat.reduceLeDiff,Int.reduceLE,Int.reduceNe,Int.reduceEq,Nat.reduceEqDiff,Nat.reduceLT,Nat.reduceBEq,ty,noS,zcq,Int.reduceEq,decide_true,decide_false,if_true,if_false]
 · exact hp.elim
set_option maxHeartbeats 4000000 in
theorem text22_sound : SoundO Try.prog 67 textO := by
 refine fn_soundO (S := noS) (SO := noO) (T := ty) zau ty_ok zbs noO_ok Try.func67 (c := Try.f67.body.getD .skip) (by kernel_rfl) (fun xs pins hp => ?_)
 unfold textO at hp ⊢
 split at hp
 · rename_i c x
   have hx : x.closed = true := hp
   refine ⟨by simp,fun _ => .std,by kernel_rfl,?_⟩
   unfold Try.f67
   by_cases h116 : c = 116
   · subst h116
     simp only [go_sem,coe,zab,Nat.reduceAdd,Nat.reduceSub,Nat.reduceMul,Int.reduceToNat,reduceCtorEq,↓reduceIte,Int.reducePow,Nat.reducePow,Int.reduceMod,Nat.reduceLeDiff,Int.reduceLE,Int.reduceNe,Int.reduceEq,Nat.reduceEqDiff,Nat.reduceLT,Nat.reduceBEq,List.map_cons,List.map_nil,List.toList_toArray,Array.toList_append,Option.toArray_some,Option.toArray_none,Bool.and_self,ty,noS,textF,zdq,Int.reduceEq,Nat.reduceEqDiff,decide_true,decide_false,if_true,if_false]
     refine ⟨_,Weak.refl _,?_⟩
     simp only [go_sem,coe,zab,Nat.reduceAdd,Nat.reduceSub,Nat.reduceMul,Int.reduceToNat,reduceCtorEq,↓reduceIte,Int.reducePow,Nat.reducePow,Int.reduceMod,Nat.reduceLeDiff,Int.reduceLE,Int.reduceNe,Int.reduceEq,Nat.reduceEqDiff,Nat.reduceLT,Nat.reduceBEq,List.map_cons,List.map_nil,List.toList_toArray,Array.toList_append,Option.toArray_some,Option.toArray_none,Bool.and_self,ty,noS,hx]
   have d116 := decide_eq_false h116
   by_cases h103 : c = 103
   · subst h103
     simp only [go_sem,coe,zab,Nat.reduceAdd,Nat.reduceSub,Nat.reduceMul,Int.reduceToNat,reduceCtorEq,↓reduceIte,Int.reducePow,Nat.reducePow,Int.reduceMod,Nat.reduceLeDiff,Int.reduceLE,Int.reduceNe,Int.reduceEq,Nat.reduceEqDiff,Nat.reduceLT,Nat.reduceBEq,List.map_cons,List.map_nil,List.toList_toArray,Array.toList_append,Option.toArray_some,Option.toArray_none,Bool.and_self,ty,noS,textF,zdq,Int.reduceEq,Nat.reduceEqDiff,decide_true,decide_false,if_true,if_false]
     refine ⟨_,Weak.refl _,?_⟩
     simp only [go_sem,coe,zab,Nat.reduceAdd,Nat.reduceSub,Nat.reduceMul,Int.reduceToNat,reduceCtorEq,↓reduceIte,Int.reducePow,Nat.reducePow,Int.reduceMod,Nat.reduceLeDiff,Int.reduceLE,Int.reduceNe,Int.reduceEq,Nat.reduceEqDiff,Nat.reduceLT,Nat.reduceBEq,List.map_cons,List.map_nil,List.toList_toArray,Array.toList_append,Option.toArray_some,Option.toArray_none,Bool.and_self,ty,noS,hx]
   have d103 := decide_eq_false h103
   by_cases h107 : c = 107
   · subst h107
     simp only [go_sem,coe,zab,Nat.reduceAdd,Nat.reduceSub,Nat.reduceMul,Int.reduceToNat,reduceCtorEq,↓reduceIte,Int.reducePow,Nat.reducePow,Int.reduceMod,Nat.reduceLeDiff,Int.reduceLE,Int.reduceNe,Int.reduceEq,Nat.reduceEqDiff,Nat.reduceLT,Nat.reduceBEq,List.map_cons,List.map_nil,List.toList_toArray,Array.toList_append,Option.toArray_some,Option.toArray_none,Bool.and_self,ty,noS,textF,zdq,Int.reduceEq,Nat.reduceEqDiff,decide_true,decide_false,if_true,if_false]
     refine ⟨_,Weak.refl _,?_⟩
     simp only [go_sem,coe,zab,Nat.reduceAdd,Nat.reduceSub,Nat.reduceMul,Int.reduceToNat,reduceCtorEq,↓reduceIte,Int.reducePow,Nat.reducePow,Int.reduceMod,Nat.reduceLeDiff,Int.reduceLE,Int.reduceNe,Int.reduceEq,Nat.reduceEqDiff,Nat.reduceLT,Nat.reduceBEq,List.map_cons,List.map_nil,List.toList_toArray,Array.toList_append,Option.toArray_some,Option.toArray_none,Bool.and_self,ty,noS,hx]
   have d107 := decide_eq_false h107
   have hv : zdq (textF c) = .w (.pointer none) := by unfold textF; simp only [h116,h103,h107,if_false]; rfl
   simp only [go_sem,coe,zab,Nat.reduceAdd,Nat.reduceSub,Nat.reduceMul,Int.reduceToNat,reduceCtorEq,↓reduceIte,Int.reducePow,Nat.reducePow,Int.reduceMod,Nat.reduceLeDiff,Int.reduceLE,Int.reduceNe,Int.reduceEq,Nat.reduceEqDiff,Nat.reduceLT,Nat.reduceBEq,List.map_cons,List.map_nil,List.toList_toArray,Array.toList_append,Option.toArray_some,Option.toArray_none,Bool.and_self,ty,noS,hv,d116,d103,d107]
   refine ⟨_,Weak.refl _,?_⟩
   simp only [go_sem,coe,zab,Nat.reduceAdd,Nat.reduceSub,Nat.reduceMul,Int.reduceToNat,reduceCtorEq,↓reduceIte,Int.reducePow,Nat.reducePow,Int.reduceMod,Nat.reduceLeDiff,Int.reduceLE,Int.reduceNe,Int.reduceEq,Nat.reduceEqDiff,Nat.reduceLT,Nat.reduceBEq,List.map_cons,List.map_nil,List.toList_toArray,Array.toList_append,Option.toArray_some,Option.toArray_none,Bool.and_self,ty,noS,hv,hx]
 · exact hp.elim
set_option maxHeartbeats 4000000 in
theorem yes22_sound : SoundO Try.prog 68 yesO := by
 refine fn_soundO (S := noS) (SO := noO) (T := ty) zau ty_ok zbs noO_ok Try.func68 (c := Try.f68.body.getD .skip) (by kernel_rfl) (fun xs pins hp => ?_)
 unfold yesO at hp ⊢
 split at hp
 · rename_i c x
   have hx : x.closed = true := hp
   refine ⟨by simp,fun _ => .std,by kernel_rfl,?_⟩
   unfold Try.f68
   by_cases h99 : c = 99
   · subst h99
     simp only [go_sem,coe,zab,Nat.reduceAdd,Nat.reduceSub,Nat.reduceMul,Int.reduceToNat,reduceCtorEq,↓reduceIte,Int.reducePow,Nat.reducePow,Int.reduceMod,Nat.reduceLeDiff,Int.reduceLE,Int.reduceNe,Int.reduceEq,Nat.reduceEqDiff,Nat.reduceLT,Nat.reduceBEq,List.map_cons,List.map_nil,List.toList_toArray,Array.toList_append,Option.toArray_some,Option.toArray_none,Bool.and_self,ty,noS,yesF,zdq,Int.reduceEq,Nat.reduceEqDiff,decide_true,decide_false,if_true,if_false]
     refine ⟨_,Weak.refl _,?_⟩
     simp only [go_sem,coe,zab,Nat.reduceAdd,Nat.reduceSub,Nat.reduceMul,Int.reduceToNat,reduceCtorEq,↓reduceIte,Int.reducePow,Nat.reducePow,Int.reduceMod,Nat.reduceLeDiff,Int.reduceLE,Int.reduceNe,Int.reduceEq,Nat.reduceEqDiff,Nat.reduceLT,Nat.reduceBEq,List.map_cons,List.map_nil,List.toList_toArray,Array.toList_append,Option.toArray_some,Option.toArray_none,Bool.and_self,ty,noS,hx]
   have d99 := decide_eq_false h99
   by_cases h102 : c = 102
   · subst h102
     simp only [go_sem,coe,zab,Nat.reduceAdd,Nat.reduceSub,Nat.reduceMul,Int.reduceToNat,reduceCtorEq,↓reduceIte,Int.reducePow,Nat.reducePow,Int.reduceMod,Nat.reduceLeDiff,Int.reduceLE,Int.reduceNe,Int.reduceEq,Nat.reduceEqDiff,Nat.reduceLT,Nat.reduceBEq,List.map_cons,List.map_nil,List.toList_toArray,Array.toList_append,Option.toArray_some,Option.toArray_none,Bool.and_self,ty,noS,yesF,zdq,Int.reduceEq,Nat.reduceEqDiff,decide_true,decide_false,if_true,if_false]
     refine ⟨_,Weak.refl _,?_⟩
     simp only [go_sem,coe,zab,Nat.reduceAdd,Nat.reduceSub,Nat.reduceMul,Int.reduceToNat,reduceCtorEq,↓reduceIte,Int.reducePow,Nat.reducePow,Int.reduceMod,Nat.reduceLeDiff,Int.reduceLE,Int.reduceNe,Int.reduceEq,Nat.reduceEqDiff,Nat.reduceLT,Nat.reduceBEq,List.map_cons,List.map_nil,List.toList_toArray,Array.toList_append,Option.toArray_some,Option.toArray_none,Bool.and_self,ty,noS,hx]
   have d102 := decide_eq_false h102
   have hv : zdq (yesF c) = .w (.pointer none) := by unfold yesF; simp only [h99,h102,if_false]; rfl
   simp only [go_sem,coe,zab,Nat.reduceAdd,Nat.reduceSub,Nat.reduceMul,Int.reduceToNat,reduceCtorEq,↓reduceIte,Int.reducePow,Nat.reducePow,Int.reduceMod,Nat.reduceLeDiff,Int.reduceLE,Int.reduceNe,Int.reduceEq,Nat.reduceEqDiff,Nat.reduceLT,Nat.reduceBEq,List.map_cons,List.map_nil,List.toList_toArray,Array.toList_append,Option.toArray_some,Option.toArray_none,Bool.and_self,ty,noS,hv,d99,d102]
   refine ⟨_,Weak.refl _,?_⟩
   simp only [go_sem,coe,zab,Nat.reduceAdd,Nat.reduceSub,Nat.reduceMul,Int.reduceToNat,reduceCtorEq,↓reduceIte,Int.reducePow,Nat.reducePow,Int.reduceMod,Nat.reduceLeDiff,Int.reduceLE,Int.reduceNe,Int.reduceEq,Nat.reduceEqDiff,Nat.reduceLT,Nat.reduceBEq,List.map_cons,List.map_nil,List.toList_toArray,Array.toList_append,Option.toArray_some,Option.toArray_none,Bool.and_self,ty,noS,hv,hx]
 · exact hp.elim
set_option maxHeartbeats 4000000 in
theorem numb22_sound : SoundO Try.prog 70 numbO := by
 refine fn_soundO (S := noS) (SO := noO) (T := ty) zau ty_ok zbs noO_ok Try.func70 (c := Try.f70.body.getD .skip) (by kernel_rfl) (fun xs pins hp => ?_)
 unfold numbO at hp ⊢
 split at hp
 · rename_i c x
   have hx : x.closed = true := hp
   refine ⟨by simp,fun _ => .std,by kernel_rfl,?_⟩
   unfold Try.f70
   by_cases h105 : c = 105
   · subst h105
     simp only [go_sem,coe,zab,Nat.reduceAdd,Nat.reduceSub,Nat.reduceMul,Int.reduceToNat,reduceCtorEq,↓reduceIte,Int.reducePow,Nat.reducePow,Int.reduceMod,Nat.reduceLeDiff,Int.reduceLE,Int.reduceNe,Int.reduceEq,Nat.reduceEqDiff,Nat.reduceLT,Nat.reduceBEq,List.map_cons,List.map_nil,List.toList_toArray,Array.toList_append,Option.toArray_some,Option.toArray_none,Bool.and_self,ty,noS,zfh,zdq,Int.reduceEq,Nat.reduceEqDiff,decide_true,decide_false,if_true,if_false]
     refine ⟨_,Weak.refl _,?_⟩
     simp only [go_sem,coe,zab,Nat.reduceAdd,Nat.reduceSub,Nat.reduceMul,Int.reduceToNat,reduceCtorEq,↓reduceIte,Int.reducePow,Nat.reducePow,Int.reduceMod,Nat.reduceLeDiff,Int.reduceLE,Int.reduceNe,Int.reduceEq,Nat.reduceEqDiff,Nat.reduceLT,Nat.reduceBEq,List.map_cons,List.map_nil,List.toList_toArray,Array.toList_append,Option.toArray_some,Option.toArray_none,Bool.and_self,ty,noS,hx]
   have d105 := decide_eq_false h105
   by_cases h112 : c = 112
   · subst h112
     simp only [go_sem,coe,zab,Nat.reduceAdd,Nat.reduceSub,Nat.reduceMul,Int.reduceToNat,reduceCtorEq,↓reduceIte,Int.reducePow,Nat.reducePow,Int.reduceMod,Nat.reduceLeDiff,Int.reduceLE,Int.reduceNe,Int.reduceEq,Nat.reduceEqDiff,Nat.reduceLT,Nat.reduceBEq,List.map_cons,List.map_nil,List.toList_toArray,Array.toList_append,Option.toArray_some,Option.toArray_none,Bool.and_self,ty,noS,zfh,zdq,Int.reduceEq,Nat.reduceEqDiff,decide_true,decide_false,if_true,if_false]
     refine ⟨_,Weak.refl _,?_⟩
     simp only [go_sem,coe,zab,Nat.reduceAdd,Nat.reduceSub,Nat.reduceMul,Int.reduceToNat,reduceCtorEq,↓reduceIte,Int.reducePow,Nat.reducePow,Int.reduceMod,Nat.reduceLeDiff,Int.reduceLE,Int.reduceNe,Int.reduceEq,Nat.reduceEqDiff,Nat.reduceLT,Nat.reduceBEq,List.map_cons,List.map_nil,List.toList_toArray,Array.toList_append,Option.toArray_some,Option.toArray_none,Bool.and_self,ty,noS,hx]
   have d112 := decide_eq_false h112
   by_cases h111 : c = 111
   · subst h111
     simp only [go_sem,coe,zab,Nat.reduceAdd,Nat.reduceSub,Nat.reduceMul,Int.reduceToNat,reduceCtorEq,↓reduceIte,Int.reducePow,Nat.reducePow,Int.reduceMod,Nat.reduceLeDiff,Int.reduceLE,Int.reduceNe,Int.reduceEq,Nat.reduceEqDiff,Nat.reduceLT,Nat.reduceBEq,List.map_cons,List.map_nil,List.toList_toArray,Array.toList_append,Option.toArray_some,Option.toArray_none,Bool.and_self,ty,noS,zfh,zdq,Int.reduceEq,Nat.reduceEqDiff,decide_true,decide_false,if_true,if_false]
     refine ⟨_,Weak.refl _,?_⟩
     simp only [go_sem,coe,zab,Nat.reduceAdd,Nat.reduceSub,Nat.reduceMul,Int.reduceToNat,reduceCtorEq,↓reduceIte,Int.reducePow,Nat.reducePow,Int.reduceMod,Nat.reduceLeDiff,Int.reduceLE,Int.reduceNe,Int.reduceEq,Nat.reduceEqDiff,Nat.reduceLT,Nat.reduceBEq,List.map_cons,List.map_nil,List.toList_toArray,Array.toList_append,Option.toArray_some,Option.toArray_none,Bool.and_self,ty,noS,hx]
   have d111 := decide_eq_false h111
   by_cases h109 : c = 109
   · subst h109
     simp only [go_sem,coe,zab,Nat.reduceAdd,Nat.reduceSub,Nat.reduceMul,Int.reduceToNat,reduceCtorEq,↓reduceIte,Int.reducePow,Nat.reducePow,Int.reduceMod,Nat.reduceLeDiff,Int.reduceLE,Int.reduceNe,Int.reduceEq,Nat.reduceEqDiff,Nat.reduceLT,Nat.reduceBEq,List.map_cons,List.map_nil,List.toList_toArray,Array.toList_append,Option.toArray_some,Option.toArray_none,Bool.and_self,ty,noS,zfh,zdq,Int.reduceEq,Nat.reduceEqDiff,decide_true,decide_false,if_true,if_false]
     refine ⟨_,Weak.refl _,?_⟩
     simp only [go_sem,coe,zab,Nat.reduceAdd,Nat.reduceSub,Nat.reduceMul,Int.reduceToNat,reduceCtorEq,↓reduceIte,Int.reducePow,Nat.reducePow,Int.reduceMod,Nat.reduceLeDiff,Int.reduceLE,Int.reduceNe,Int.reduceEq,Nat.reduceEqDiff,Nat.reduceLT,Nat.reduceBEq,List.map_cons,List.map_nil,List.toList_toArray,Array.toList_append,Option.toArray_some,Option.toArray_none,Bool.and_self,ty,noS,hx]
   have d109 := decide_eq_false h109
   by_cases h119 : c = 119
   · subst h119
     simp only [go_sem,coe,zab,Nat.reduceAdd,Nat.reduceSub,Nat.reduceMul,Int.reduceToNat,reduceCtorEq,↓reduceIte,Int.reducePow,Nat.reducePow,Int.reduceMod,Nat.reduceLeDiff,Int.reduceLE,Int.reduceNe,Int.reduceEq,Nat.reduceEqDiff,Nat.reduceLT,Nat.reduceBEq,List.map_cons,List.map_nil,List.toList_toArray,Array.toList_append,Option.toArray_some,Option.toArray_none,Bool.and_self,ty,noS,zfh,zdq,Int.reduceEq,Nat.reduceEqDiff,decide_true,decide_false,if_true,if_false]
     refine ⟨_,Weak.refl _,?_⟩
     simp only [go_sem,coe,zab,Nat.reduceAdd,Nat.reduceSub,Nat.reduceMul,Int.reduceToNat,reduceCtorEq,↓reduceIte,Int.reducePow,Nat.reducePow,Int.reduceMod,Nat.reduceLeDiff,Int.reduceLE,Int.reduceNe,Int.reduceEq,Nat.reduceEqDiff,Nat.reduceLT,Nat.reduceBEq,List.map_cons,List.map_nil,List.toList_toArray,Array.toList_append,Option.toArray_some,Option.toArray_none,Bool.and_self,ty,noS,hx]
   have d119 := decide_eq_false h119
   by_cases h110 : c = 110
   · subst h110
     simp only [go_sem,coe,zab,Nat.reduceAdd,Nat.reduceSub,Nat.reduceMul,Int.reduceToNat,reduceCtorEq,↓reduceIte,Int.reducePow,Nat.reducePow,Int.reduceMod,Nat.reduceLeDiff,Int.reduceLE,Int.reduceNe,Int.reduceEq,Nat.reduceEqDiff,Nat.reduceLT,Nat.reduceBEq,List.map_cons,List.map_nil,List.toList_toArray,Array.toList_append,Option.toArray_some,Option.toArray_none,Bool.and_self,ty,noS,zfh,zdq,Int.reduceEq,Nat.reduceEqDiff,decide_true,decide_false,if_true,if_false]
     refine ⟨_,Weak.refl _,?_⟩
     simp only [go_sem,coe,zab,Nat.reduceAdd,Nat.reduceSub,Nat.reduceMul,Int.reduceToNat,reduceCtorEq,↓reduceIte,Int.reducePow,Nat.reducePow,Int.reduceMod,Nat.reduceLeDiff,Int.reduceLE,Int.reduceNe,Int.reduceEq,Nat.reduceEqDiff,Nat.reduceLT,Nat.reduceBEq,List.map_cons,List.map_nil,List.toList_toArray,Array.toList_append,Option.toArray_some,Option.toArray_none,Bool.and_self,ty,noS,hx]
   have d110 := decide_eq_false h110
   have hv : zdq (zfh c) = .w (.pointer none) := by unfold zfh; simp only [h105,h112,h111,h109,h119,h110,if_false]; rfl
   simp only [go_sem,coe,zab,Nat.reduceAdd,Nat.reduceSub,Nat.reduceMul,Int.reduceToNat,reduceCtorEq,↓reduceIte,Int.reducePow,Nat.reducePow,Int.reduceMod,Nat.reduceLeDiff,Int.reduceLE,Int.reduceNe,Int.reduceEq,Nat.reduceEqDiff,Nat.reduceLT,Nat.reduceBEq,List.map_cons,List.map_nil,List.toList_toArray,Array.toList_append,Option.toArray_some,Option.toArray_none,Bool.and_self,ty,noS,hv,d105,d112,d111,d109,d119,d110]
   refine ⟨_,Weak.refl _,?_⟩
   simp only [go_sem,coe,zab,Nat.reduceAdd,Nat.reduceSub,Nat.reduceMul,Int.reduceToNat,reduceCtorEq,↓reduceIte,Int.reducePow,Nat.reducePow,Int.reduceMod,Nat.reduceLeDiff,Int.reduceLE,Int.reduceNe,Int.reduceEq,Nat.reduceEqDiff,Nat.reduceLT,Nat.reduceBEq,List.map_cons,List.map_nil,List.toList_toArray,Array.toList_append,Option.toArray_some,Option.toArray_none,Bool.and_self,ty,noS,hv,hx]
 · exact hp.elim
end
end Go.Proofs.Ytihbcgbmlecpbaa
namespace Go.Proofs.Ytihbcgbmlecpbaa
open Ax
theorem dc22_0 : (decR [116] 0 = 116 ∧ decW [116] 0 = 1) := by decide +kernel
theorem dc22_1 : (decR [103,107] 0 = 103 ∧ decW [103,107] 0 = 1) ∧ (decR [103,107] 1 = 107 ∧ decW [103,107] 1 = 1) := by decide +kernel
theorem dc22_2 : (decR [103,107,110] 0 = 103 ∧ decW [103,107,110] 0 = 1) ∧ (decR [103,107,110] 1 = 107 ∧ decW [103,107,110] 1 = 1) ∧ (decR [103,107,110] 2 = 110 ∧ decW [103,107,110] 2 = 1) := by decide +kernel
theorem dc22_3 : (decR [116,105,103] 0 = 116 ∧ decW [116,105,103] 0 = 1) ∧ (decR [116,105,103] 1 = 105 ∧ decW [116,105,103] 1 = 1) ∧ (decR [116,105,103] 2 = 103 ∧ decW [116,105,103] 2 = 1) := by decide +kernel
theorem dc22_4 : (decR [116,105,119] 0 = 116 ∧ decW [116,105,119] 0 = 1) ∧ (decR [116,105,119] 1 = 105 ∧ decW [116,105,119] 1 = 1) ∧ (decR [116,105,119] 2 = 119 ∧ decW [116,105,119] 2 = 1) := by decide +kernel
theorem dc22_5 : (decR [116,112,99] 0 = 116 ∧ decW [116,112,99] 0 = 1) ∧ (decR [116,112,99] 1 = 112 ∧ decW [116,112,99] 1 = 1) ∧ (decR [116,112,99] 2 = 99 ∧ decW [116,112,99] 2 = 1) := by decide +kernel
theorem dc22_6 : (decR [116,103,107,110] 0 = 116 ∧ decW [116,103,107,110] 0 = 1) ∧ (decR [116,103,107,110] 1 = 103 ∧ decW [116,103,107,110] 1 = 1) ∧ (decR [116,103,107,110] 2 = 107 ∧ decW [116,103,107,110] 2 = 1) ∧ (decR [116,103,107,110] 3 = 110 ∧ decW [116,103,107,110] 3 = 1) := by decide +kernel
theorem dc22_7 : (decR [116,105,102,98] 0 = 116 ∧ decW [116,105,102,98] 0 = 1) ∧ (decR [116,105,102,98] 1 = 105 ∧ decW [116,105,102,98] 1 = 1) ∧ (decR [116,105,102,98] 2 = 102 ∧ decW [116,105,102,98] 2 = 1) ∧ (decR [116,105,102,98] 3 = 98 ∧ decW [116,105,102,98] 3 = 1) := by decide +kernel
theorem dc22_8 : (decR [116,105,111,109] 0 = 116 ∧ decW [116,105,111,109] 0 = 1) ∧ (decR [116,105,111,109] 1 = 105 ∧ decW [116,105,111,109] 1 = 1) ∧ (decR [116,105,111,109] 2 = 111 ∧ decW [116,105,111,109] 2 = 1) ∧ (decR [116,105,111,109] 3 = 109 ∧ decW [116,105,111,109] 3 = 1) := by decide +kernel
theorem dc22_9 : (decR [116,105,111,103,107,110] 0 = 116 ∧ decW [116,105,111,103,107,110] 0 = 1) ∧ (decR [116,105,111,103,107,110] 1 = 105 ∧ decW [116,105,111,103,107,110] 1 = 1) ∧ (decR [116,105,111,103,107,110] 2 = 111 ∧ decW [116,105,111,103,107,110] 2 = 1) ∧ (decR [116,105,111,103,107,110] 3 = 103 ∧ decW [116,105,111,103,107,110] 3 = 1) ∧ (decR [116,105,111,103,107,110] 4 = 107 ∧ decW [116,105,111,103,107,110] 4 = 1) ∧ (decR [116,105,111,103,107,110] 5 = 110 ∧ decW [116,105,111,103,107,110] 5 = 1) := by decide +kernel
def onlyQ (k : Int) (t : List UInt8) (i p : Int) (c f : Bool) (o m w : Int) (g mb : List UInt8) (n b1 b2 b3 b4 b5 : Int) (xs : List AV) (fl : Bool) : AV :=
 .agg [.w (.int .u8 k),.str (if k = 0 ∨ k = 1 ∨ k = 2 ∨ k = 3 ∨ k = 4 ∨ k = 5 ∨ k = 7 ∨ k = 10 ∨ k = 11 then t else []),.w (.int .i64 (if k = 3 ∨ k = 4 ∨ k = 5 ∨ k = 10 ∨ k = 11 then i else 0)),.w (.int .i64 (if k = 0 then p else 0)),.w (.bool (if k = 0 then c else false)),.w (.bool (if k = 3 then f else false)),.w (.int .i64 (if k = 4 ∨ k = 10 then o else 0)),.w (.int .i64 (if k = 4 then m else 0)),.w (.int .i64 (if k = 5 then w else 0)),.str (if k = 6 ∨ k = 7 ∨ k = 8 ∨ k = 9 ∨ k = 10 ∨ k = 11 then g else []),.str (if k = 6 ∨ k = 7 ∨ k = 8 ∨ k = 9 ∨ k = 10 then mb else []),.w (.int .i64 (if k = 7 ∨ k = 8 ∨ k = 10 then n else 0)),
   .w (.int .i64 (if k = 3 then b1 else 0)),.w (.int .i64 (if k = 3 then b2 else 0)),.w (.int .i64 (if k = 3 then b3 else 0)),.w (.int .i64 (if k = 3 then b4 else 0)),.w (.int .i64 (if k = 3 then b5 else 0)),.sg 6 (if k = 3 then xs else []) (if k = 3 then fl else true)]
def zcy : zak
 | [.agg [.w (.int .u8 k),.str t,.w (.int .i64 i),.w (.int .i64 p),.w (.bool c),.w (.bool f),.w (.int .i64 o),.w (.int .i64 m),.w (.int .i64 w),.str g,.str mb,.w (.int .i64 n),.w (.int .i64 b1),.w (.int .i64 b2),.w (.int .i64 b3),.w (.int .i64 b4),.w (.int .i64 b5),.sg 6 xs fl]],[] => ⟨0 ≤ k ∧ k ≤ 11,onlyQ k t i p c f o m w g mb n b1 b2 b3 b4 b5 xs fl,[]⟩
 | _,_ => zbd
def Sjust22 (f : FuncId) : Option zak :=
 match f with
 | 44 => some usesS
 | _ => none
theorem Sjust22_ok : Fns Try.prog Sjust22 := by
 intro f s h
 unfold Sjust22 at h
 split at h
 · injection h with h; subst h; exact ⟨⟨_,Try.func44,by kernel_rfl,by kernel_rfl⟩,uses22_sound⟩
 · cases h
def zch (f : FuncId) : Option zak :=
 match f with
 | 67 => some textO
 | 68 => some yesO
 | 70 => some numbO
 | _ => none
theorem Ojust22_ok : FnsO Try.prog zch := by
 intro f s h
 unfold zch at h
 split at h
 · injection h with h; subst h; exact ⟨⟨_,Try.func67,by kernel_rfl,by kernel_rfl⟩,text22_sound⟩
 · injection h with h; subst h; exact ⟨⟨_,Try.func68,by kernel_rfl,by kernel_rfl⟩,yes22_sound⟩
 · injection h with h; subst h; exact ⟨⟨_,Try.func70,by kernel_rfl,by kernel_rfl⟩,numb22_sound⟩
 · cases h
def just22Pl : XPlan := fun id => match id with
 | 5 => .opn [] 1
 | 7 => .opn [] 2
 | 8 => .opn [] 1
 | 10 => .opn [] 2
 | 11 => .opn [] 1
 | 13 => .opn [] 2
 | _ => .std
section
set_option maxRecDepth 100000
set_option maxHeartbeats 40000000 in
theorem just22_sound : zaq Try.prog 65 zcy := by
 refine zbx (S := Sjust22) (SO := zch) (T := ty) zau ty_ok Sjust22_ok Ojust22_ok Try.func65 (c := Try.f65.body.getD .skip) (by kernel_rfl) (fun xs pins hp _ => ?_)
 unfold zcy at hp ⊢
 split at hp
 · rename_i k t i p c f o m w g mb n b1 b2 b3 b4 b5 xs fl _
   have hk : 0 ≤ k ∧ k ≤ 11 := hp
   refine ⟨by simp,just22Pl,by kernel_rfl,?_⟩
   rcases knd_le k hk with rfl | rfl | rfl | rfl | rfl | rfl | rfl | rfl | rfl | rfl | rfl | rfl
   all_goals
     unfold Try.f65
     simp only [go_sem,coe,zab,Nat.reduceAdd,Nat.reduceSub,Nat.reduceMul,Int.reduceToNat,reduceCtorEq,↓reduceIte,Int.reducePow,Nat.reducePow,Int.reduceMod,Nat.reduceLeDiff,Int.reduceLE,Int.reduceNe,Int.reduceEq,Nat.reduceEqDiff,Nat.reduceLT,Nat.reduceBEq,List.map_cons,List.map_nil,List.toList_toArray,Array.toList_append,Option.toArray_some,Option.toArray_none,Bool.and_self,ty,Sjust22,zch,just22Pl,usesS,zcq,fillS,Int.reduceEq,Int.reduceLT,Int.reduceLE,or_self,or_false,false_or,or_true,true_or,if_true,if_false]
     refine awpO_unr 8 ?_
     simp only [go_sem,coe,zab,Nat.reduceAdd,Nat.reduceSub,Nat.reduceMul,Int.reduceToNat,reduceCtorEq,↓reduceIte,Int.reducePow,Nat.reducePow,Int.reduceMod,Nat.reduceLeDiff,Int.reduceLE,Int.reduceNe,Int.reduceEq,Nat.reduceEqDiff,Nat.reduceLT,Nat.reduceBEq,List.map_cons,List.map_nil,List.toList_toArray,Array.toList_append,Option.toArray_some,Option.toArray_none,Bool.and_self,ty,Sjust22,zch,just22Pl,textO,yesO,numbO,textF,yesF,zfh,zdq,unrO_go,unK_normal,unK_exit,unK_ret,Int.reduceAdd,Int.reduceSub,Int.cast_ofNat_Int,fillS,Int.reduceEq,Int.reduceLT,Int.reduceLE,or_self,or_false,false_or,or_true,true_or,if_true,if_false,dc22_0,dc22_1,dc22_2,dc22_3,dc22_4,dc22_5,dc22_6,dc22_7,dc22_8,dc22_9]
     refine ⟨_,Weak.refl _,?_⟩
     simp only [go_sem,coe,zab,Nat.reduceAdd,Nat.reduceSub,Nat.reduceMul,Int.reduceToNat,reduceCtorEq,↓reduceIte,Int.reducePow,Nat.reducePow,Int.reduceMod,Nat.reduceLeDiff,Int.reduceLE,Int.reduceNe,Int.reduceEq,Nat.reduceEqDiff,Nat.reduceLT,Nat.reduceBEq,List.map_cons,List.map_nil,List.toList_toArray,Array.toList_append,Option.toArray_some,Option.toArray_none,Bool.and_self,ty,onlyQ,Int.reduceEq,Int.reduceLT,Int.reduceLE,or_self,or_false,false_or,or_true,true_or,if_true,if_false]
 · exact hp.elim
end
end Go.Proofs.Ytihbcgbmlecpbaa
namespace Go.Proofs.Ytihbcgbmlecpbaa
open Ax
theorem zba {T : zae} {sl : List AV} {H : Heap} {nx : Nat} {v : Value} {q : Prop} (i : Nat) (h : slot sl i = .w v) : EndsW T [.tmp i] [] ⟨q,.w v,[]⟩ .ret ⟨sl,H,nx⟩ := by
 refine ⟨_,Weak.refl _,?_⟩
 simp only [Ax.Ends,Ax.rvals,EndsX,rone,h,AV.ids,idsL,newIds,upTo,nodup,pinsOf,List.nil_append,AV.ren,and_self]
end Go.Proofs.Ytihbcgbmlecpbaa
namespace Go.Proofs.Ytihbcgbmlecpbaa
open Ax
theorem w1 : rchk 1 5 true [107] false [118] = 0 := by decide
theorem w2 : rchk 1 5 true [107] true [] = 0 := by decide
section
set_option maxRecDepth 100000
set_option maxHeartbeats 1000000 in
end
end Go.Proofs.Ytihbcgbmlecpbaa
namespace Go.Proofs.Ytihbcgbmlecpbaa
open Ax
def okI (n : Int) : Prop := -9223372036854775808 ≤ n ∧ n ≤ 9223372036854775807
end Go.Proofs.Ytihbcgbmlecpbaa
namespace Go.Proofs.Ytihbcgbmlecpbaa
open Ax
def eqQ (k : Int) (t : List UInt8) (i p : Int) (c f : Bool) (o m w : Int) (g mb : List UInt8) (n : Int) (k' : Int) (t' : List UInt8) (i' p' : Int) (c' f' : Bool) (o' m' w' : Int) (g' mb' : List UInt8) (n' : Int) (B : Bool) : Bool := decide (k = k' ∧ t = t' ∧ i = i' ∧ p = p' ∧ c = c' ∧ f = f' ∧ o = o' ∧ m = m' ∧ w = w' ∧ g = g' ∧ mb = mb' ∧ n = n') && B
theorem eqQ_cases (k : Int) (t : List UInt8) (i p : Int) (c f : Bool) (o m w : Int) (g mb : List UInt8) (n : Int) (k' : Int) (t' : List UInt8) (i' p' : Int) (c' f' : Bool) (o' m' w' : Int) (g' mb' : List UInt8) (n' : Int) :
   ((∀ B,eqQ k t i p c f o m w g mb n k' t' i' p' c' f' o' m' w' g' mb' n' B = false) ∧ decide (k = k') = false) ∨
   ((∀ B,eqQ k t i p c f o m w g mb n k' t' i' p' c' f' o' m' w' g' mb' n' B = false) ∧ decide (k = k') = true ∧ decide (t = t') = false) ∨
   ((∀ B,eqQ k t i p c f o m w g mb n k' t' i' p' c' f' o' m' w' g' mb' n' B = false) ∧ decide (k = k') = true ∧ decide (t = t') = true ∧ decide (i = i') = false) ∨
   ((∀ B,eqQ k t i p c f o m w g mb n k' t' i' p' c' f' o' m' w' g' mb' n' B = false) ∧ decide (k = k') = true ∧ decide (t = t') = true ∧ decide (i = i') = true ∧ decide (p = p') = false) ∨
   ((∀ B,eqQ k t i p c f o m w g mb n k' t' i' p' c' f' o' m' w' g' mb' n' B = false) ∧ decide (k = k') = true ∧ decide (t = t') = true ∧ decide (i = i') = true ∧ decide (p = p') = true ∧ (c == c') = false) ∨
   ((∀ B,eqQ k t i p c f o m w g mb n k' t' i' p' c' f' o' m' w' g' mb' n' B = false) ∧ decide (k = k') = true ∧ decide (t = t') = true ∧ decide (i = i') = true ∧ decide (p = p') = true ∧ (c == c') = true ∧ (f == f') = false) ∨
   ((∀ B,eqQ k t i p c f o m w g mb n k' t' i' p' c' f' o' m' w' g' mb' n' B = false) ∧ decide (k = k') = true ∧ decide (t = t') = true ∧ decide (i = i') = true ∧ decide (p = p') = true ∧ (c == c') = true ∧ (f == f') = true ∧ decide (o = o') = false) ∨
   ((∀ B,eqQ k t i p c f o m w g mb n k' t' i' p' c' f' o' m' w' g' mb' n' B = false) ∧ decide (k = k') = true ∧ decide (t = t') = true ∧ decide (i = i') = true ∧ decide (p = p') = true ∧ (c == c') = true ∧ (f == f') = true ∧ decide (o = o') = true ∧ decide (m = m') = false) ∨
   ((∀ B,eqQ k t i p c f o m w g mb n k' t' i' p' c' f' o' m' w' g' mb' n' B = false) ∧ decide (k = k') = true ∧ decide (t = t') = true ∧ decide (i = i') = true ∧ decide (p = p') = true ∧ (c == c') = true ∧ (f == f') = true ∧ decide (o = o') = true ∧ decide (m = m') = true ∧ decide (w = w') = false) ∨
   ((∀ B,eqQ k t i p c f o m w g mb n k' t' i' p' c' f' o' m' w' g' mb' n' B = false) ∧ decide (k = k') = true ∧ decide (t = t') = true ∧ decide (i = i') = true ∧ decide (p = p') = true ∧ (c == c') = true ∧ (f == f') = true ∧ decide (o = o') = true ∧ decide (m = m') = true ∧ decide (w = w') = true ∧ decide (g = g') = false) ∨
   ((∀ B,eqQ k t i p c f o m w g mb n k' t' i' p' c' f' o' m' w' g' mb' n' B = false) ∧ decide (k = k') = true ∧ decide (t = t') = true ∧ decide (i = i') = true ∧ decide (p = p') = true ∧ (c == c') = true ∧ (f == f') = true ∧ decide (o = o') = true ∧ decide (m = m') = true ∧ decide (w = w') = true ∧ decide (g = g') = true ∧ decide (mb = mb') = false) ∨
   ((∀ B,eqQ k t i p c f o m w g mb n k' t' i' p' c' f' o' m' w' g' mb' n' B = false) ∧ decide (k = k') = true ∧ decide (t = t') = true ∧ decide (i = i') = true ∧ decide (p = p') = true ∧ (c == c') = true ∧ (f == f') = true ∧ decide (o = o') = true ∧ decide (m = m') = true ∧ decide (w = w') = true ∧ decide (g = g') = true ∧ decide (mb = mb') = true ∧ decide (n = n') = false) ∨
   ((∀ B,eqQ k t i p c f o m w g mb n k' t' i' p' c' f' o' m' w' g' mb' n' B = B) ∧ decide (k = k') = true ∧ decide (t = t') = true ∧ decide (i = i') = true ∧ decide (p = p') = true ∧ (c == c') = true ∧ (f == f') = true ∧ decide (o = o') = true ∧ decide (m = m') = true ∧ decide (w = w') = true ∧ decide (g = g') = true ∧ decide (mb = mb') = true ∧ decide (n = n') = true) := by
 by_cases h0 : k = k'
 case neg =>
   exact .inl ⟨fun B => by unfold eqQ; rw [decide_eq_false (fun h => h0 h.1)]; rfl,decide_eq_false h0⟩
 by_cases h1 : t = t'
 case neg =>
   exact .inr (.inl ⟨fun B => by unfold eqQ; rw [decide_eq_false (fun h => h1 h.2.1)]; rfl,decide_eq_true h0,decide_eq_false h1⟩)
 by_cases h2 : i = i'
 case neg =>
   exact .inr (.inr (.inl ⟨fun B => by unfold eqQ; rw [decide_eq_false (fun h => h2 h.2.2.1)]; rfl,decide_eq_true h0,decide_eq_true h1,decide_eq_false h2⟩))
 by_cases h3 : p = p'
 case neg =>
   exact .inr (.inr (.inr (.inl ⟨fun B => by unfold eqQ; rw [decide_eq_false (fun h => h3 h.2.2.2.1)]; rfl,decide_eq_true h0,decide_eq_true h1,decide_eq_true h2,decide_eq_false h3⟩)))
 by_cases h4 : c = c'
 case neg =>
   exact .inr (.inr (.inr (.inr (.inl ⟨fun B => by unfold eqQ; rw [decide_eq_false (fun h => h4 h.2.2.2.2.1)]; rfl,decide_eq_true h0,decide_eq_true h1,decide_eq_true h2,decide_eq_true h3,(beq_false_of_ne h4)⟩))))
 by_cases h5 : f = f'
 case neg =>
   exact .inr (.inr (.inr (.inr (.inr (.inl ⟨fun B => by unfold eqQ; rw [decide_eq_false (fun h => h5 h.2.2.2.2.2.1)]; rfl,decide_eq_true h0,decide_eq_true h1,decide_eq_true h2,decide_eq_true h3,(by rw [h4]; exact beq_self_eq_true _),(beq_false_of_ne h5)⟩)))))
 by_cases h6 : o = o'
 case neg =>
   exact .inr (.inr (.inr (.inr (.inr (.inr (.inl ⟨fun B => by unfold eqQ; rw [decide_eq_false (fun h => h6 h.2.2.2.2.2.2.1)]; rfl,decide_eq_true h0,decide_eq_true h1,decide_eq_true h2,decide_eq_true h3,(by rw [h4]; exact beq_self_eq_true _),(by rw [h5]; exact beq_self_eq_true _),decide_eq_false h6⟩))))))
 by_cases h7 : m = m'
 case neg =>
   exact .inr (.inr (.inr (.inr (.inr (.inr (.inr (.inl ⟨fun B => by unfold eqQ; rw [decide_eq_false (fun h => h7 h.2.2.2.2.2.2.2.1)]; rfl,decide_eq_true h0,decide_eq_true h1,decide_eq_true h2,decide_eq_true h3,(by rw [h4]; exact beq_self_eq_true _),(by rw [h5]; exact beq_self_eq_true _),decide_eq_true h6,decide_eq_false h7⟩)))))))
 by_cases h8 : w = w'
 case neg =>
   exact .inr (.inr (.inr (.inr (.inr (.inr (.inr (.inr (.inl ⟨fun B => by unfold eqQ; rw [decide_eq_false (fun h => h8 h.2.2.2.2.2.2.2.2.1)]; rfl,decide_eq_true h0,decide_eq_true h1,decide_eq_true h2,decide_eq_true h3,(by rw [h4]; exact beq_self_eq_true _),(by rw [h5]; exact beq_self_eq_true _),decide_eq_true h6,decide_eq_true h7,decide_eq_false h8⟩))))))))
 by_cases h9 : g = g'
 case neg =>
   exact .inr (.inr (.inr (.inr (.inr (.inr (.inr (.inr (.inr (.inl ⟨fun B => by unfold eqQ; rw [decide_eq_false (fun h => h9 h.2.2.2.2.2.2.2.2.2.1)]; rfl,decide_eq_true h0,decide_eq_true h1,decide_eq_true h2,decide_eq_true h3,(by rw [h4]; exact beq_self_eq_true _),(by rw [h5]; exact beq_self_eq_true _),decide_eq_true h6,decide_eq_true h7,decide_eq_true h8,decide_eq_false h9⟩)))))))))
 by_cases h10 : mb = mb'
 case neg =>
   exact .inr (.inr (.inr (.inr (.inr (.inr (.inr (.inr (.inr (.inr (.inl ⟨fun B => by unfold eqQ; rw [decide_eq_false (fun h => h10 h.2.2.2.2.2.2.2.2.2.2.1)]; rfl,decide_eq_true h0,decide_eq_true h1,decide_eq_true h2,decide_eq_true h3,(by rw [h4]; exact beq_self_eq_true _),(by rw [h5]; exact beq_self_eq_true _),decide_eq_true h6,decide_eq_true h7,decide_eq_true h8,decide_eq_true h9,decide_eq_false h10⟩))))))))))
 by_cases h11 : n = n'
 case neg =>
   exact .inr (.inr (.inr (.inr (.inr (.inr (.inr (.inr (.inr (.inr (.inr (.inl ⟨fun B => by unfold eqQ; rw [decide_eq_false (fun h => h11 h.2.2.2.2.2.2.2.2.2.2.2)]; rfl,decide_eq_true h0,decide_eq_true h1,decide_eq_true h2,decide_eq_true h3,(by rw [h4]; exact beq_self_eq_true _),(by rw [h5]; exact beq_self_eq_true _),decide_eq_true h6,decide_eq_true h7,decide_eq_true h8,decide_eq_true h9,decide_eq_true h10,decide_eq_false h11⟩)))))))))))
 exact .inr (.inr (.inr (.inr (.inr (.inr (.inr (.inr (.inr (.inr (.inr (.inr (⟨fun B => by unfold eqQ; rw [decide_eq_true ⟨h0,h1,h2,h3,h4,h5,h6,h7,h8,h9,h10,h11⟩]; rfl,decide_eq_true h0,decide_eq_true h1,decide_eq_true h2,decide_eq_true h3,(by rw [h4]; exact beq_self_eq_true _),(by rw [h5]; exact beq_self_eq_true _),decide_eq_true h6,decide_eq_true h7,decide_eq_true h8,decide_eq_true h9,decide_eq_true h10,decide_eq_true h11⟩))))))))))))
def sreqS : zak
 | [.agg [.w (.int .u8 k),.str t,.w (.int .i64 i),.w (.int .i64 p),.w (.bool c),.w (.bool f),.w (.int .i64 o),.w (.int .i64 m),.w (.int .i64 w),.str g,.str mb,.w (.int .i64 n),.w (.int .i64 b1),.w (.int .i64 b2),.w (.int .i64 b3),.w (.int .i64 b4),.w (.int .i64 b5),.sg 6 xs fl],.agg [.w (.int .u8 k'),.str t',.w (.int .i64 i'),.w (.int .i64 p'),.w (.bool c'),.w (.bool f'),.w (.int .i64 o'),.w (.int .i64 m'),.w (.int .i64 w'),.str g',.str mb',.w (.int .i64 n'),.w (.int .i64 b1'),.w (.int .i64 b2'),.w (.int .i64 b3'),.w (.int .i64 b4'),.w (.int .i64 b5'),.sg 6 ys fm]],[] =>
     ⟨(xs.length ≤ 9223372036854775807 ∧ ∃ rs : List Rec,xs = rs.map rv) ∧ ys.length ≤ 9223372036854775807 ∧ ∃ qs : List Rec,ys = qs.map rv,.w (.bool (eqQ k t i p c f o m w g mb n k' t' i' p' c' f' o' m' w' g' mb' n' (zbw b1 b2 b3 b4 b5 (xs.map rrec) b1' b2' b3' b4' b5' (ys.map rrec)))),[]⟩
 | _,_ => zbd
def Ssreq22 (f : FuncId) : Option zak :=
 match f with
 | 53 => some bsameS4
 | _ => none
theorem Ssreq22_ok : Fns Try.prog Ssreq22 := by
 intro f s h
 unfold Ssreq22 at h
 split at h
 · injection h with h; subst h; exact ⟨⟨_,Try.func53,by kernel_rfl,by kernel_rfl⟩,bsame4_sound⟩
 · cases h
section
set_option maxRecDepth 100000
set_option maxHeartbeats 8000000 in
theorem sreq22_sound : zaq Try.prog 27 sreqS := by
 refine zbp (S := Ssreq22) (T := ty) zau ty_ok Ssreq22_ok Try.func27 (c := Try.f27.body.getD .skip) (by kernel_rfl) (by kernel_rfl) (fun xs pins hp _ => ?_)
 unfold sreqS at hp ⊢
 split at hp
 · rename_i k t i p c f o m w g mb n b1 b2 b3 b4 b5 xs fl k' t' i' p' c' f' o' m' w' g' mb' n' b1' b2' b3' b4' b5' ys fm _
   obtain ⟨hX,hY1,hY2⟩ := hp
   refine ⟨by simp,?_⟩
   unfold Try.f27
   rcases eqQ_cases k t i p c f o m w g mb n k' t' i' p' c' f' o' m' w' g' mb' n' with D | D | D | D | D | D | D | D | D | D | D | D | D
   all_goals
     simp only [go_sem,coe,zaa,Nat.reduceAdd,Nat.reduceSub,Nat.reduceMul,Int.reduceToNat,reduceCtorEq,↓reduceIte,Int.reducePow,Nat.reducePow,Int.reduceMod,Nat.reduceLeDiff,Int.reduceLE,Int.reduceNe,Int.reduceEq,Nat.reduceEqDiff,Nat.reduceLT,Nat.reduceBEq,ty,Ssreq22,bsameS4,hX,hY1,hY2,D]
     exact zba 4 rfl
 · exact hp.elim
end
end Go.Proofs.Ytihbcgbmlecpbaa
namespace Go.Proofs.Ytihbcgbmlecpbaa
open Ax
def zbu (k : Int) (t : List UInt8) (i p : Int) (c f : Bool) (o m w : Int) (g mb : List UInt8) (n b1 b2 b3 b4 b5 : Int) (rs : List Rec) : Bool :=
 eqQ k t i p c f o m w g mb n k (if k = 0 ∨ k = 1 ∨ k = 2 ∨ k = 3 ∨ k = 4 ∨ k = 5 ∨ k = 7 ∨ k = 10 ∨ k = 11 then t else []) (if k = 3 ∨ k = 4 ∨ k = 5 ∨ k = 10 ∨ k = 11 then i else 0) (if k = 0 then p else 0) (if k = 0 then c else false) (if k = 3 then f else false) (if k = 4 ∨ k = 10 then o else 0) (if k = 4 then m else 0) (if k = 5 then w else 0) (if k = 6 ∨ k = 7 ∨ k = 8 ∨ k = 9 ∨ k = 10 ∨ k = 11 then g else []) (if k = 6 ∨ k = 7 ∨ k = 8 ∨ k = 9 ∨ k = 10 then mb else []) (if k = 7 ∨ k = 8 ∨ k = 10 then n else 0) (zbw b1 b2 b3 b4 b5 rs (if k = 3 then b1 else 0) (if k = 3 then b2 else 0) (if k = 3 then b3 else 0) (if k = 3 then b4 else 0) (if k = 3 then b5 else 0) (if k = 3 then rs else []))
def zeo (t g mb : List UInt8) : Prop := 255 < t.length ∨ 255 < g.length ∨ 255 < mb.length
instance (t g mb : List UInt8) : Decidable (zeo t g mb) := by unfold zeo; infer_instance
def chkQ (k : Int) (t : List UInt8) (i p : Int) (c f : Bool) (o m w : Int) (g mb : List UInt8) (n b1 b2 b3 b4 b5 : Int) (rs : List Rec) : Int :=
 if 11 < k then 22 else if zbu k t i p c f o m w g mb n b1 b2 b3 b4 b5 rs = false then 4 else if zeo t g mb then 5 else if k ≠ 3 then 0 else if batE 0 b2 b3 b4 b5 rs ≠ 0 then batE 0 b2 b3 b4 b5 rs else if b1 ≠ 0 then 4 else 0
def chkQS : zak
 | [.agg [.w (.int .u8 k),.str t,.w (.int .i64 i),.w (.int .i64 p),.w (.bool c),.w (.bool f),.w (.int .i64 o),.w (.int .i64 m),.w (.int .i64 w),.str g,.str mb,.w (.int .i64 n),.w (.int .i64 b1),.w (.int .i64 b2),.w (.int .i64 b3),.w (.int .i64 b4),.w (.int .i64 b5),.sg 6 xs fl]],[] => ⟨0 ≤ k ∧ k < 256 ∧ xs.length ≤ 9223372036854775807 ∧ ∃ rs : List Rec,xs = rs.map rv,.w (.int .i64 (chkQ k t i p c f o m w g mb n b1 b2 b3 b4 b5 (xs.map rrec))),[]⟩
 | _,_ => zbd
theorem long_cases (t g mb : List UInt8) :
   (decide ((255 : Int) < t.length) = true ∧ zeo t g mb) ∨ (decide ((255 : Int) < t.length) = false ∧ decide ((255 : Int) < g.length) = true ∧ zeo t g mb) ∨
   (decide ((255 : Int) < t.length) = false ∧ decide ((255 : Int) < g.length) = false ∧ decide ((255 : Int) < mb.length) = true ∧ zeo t g mb) ∨
   (decide ((255 : Int) < t.length) = false ∧ decide ((255 : Int) < g.length) = false ∧ decide ((255 : Int) < mb.length) = false ∧ ¬ zeo t g mb) := by
 unfold zeo
 by_cases h1 : 255 < t.length
 · exact .inl ⟨decide_eq_true (by omega),.inl h1⟩
 · by_cases h2 : 255 < g.length
   · exact .inr (.inl ⟨decide_eq_false (by omega),decide_eq_true (by omega),.inr (.inl h2)⟩)
   · by_cases h3 : 255 < mb.length
     · exact .inr (.inr (.inl ⟨decide_eq_false (by omega),decide_eq_false (by omega),decide_eq_true (by omega),.inr (.inr h3)⟩))
     · exact .inr (.inr (.inr ⟨decide_eq_false (by omega),decide_eq_false (by omega),decide_eq_false (by omega),by omega⟩))
theorem only_recs (k : Int) (rs : List Rec) (hL : (rs.map rv).length ≤ 9223372036854775807) : (if k = 3 then rs.map rv else []).length ≤ 9223372036854775807 ∧ (∃ qs : List Rec,(if k = 3 then rs.map rv else []) = qs.map rv) ∧ (if k = 3 then rs.map rv else []).map rrec = (if k = 3 then rs else []) := by
 by_cases h : k = 3
 · rw [if_pos h,if_pos h]; exact ⟨hL,⟨rs,rfl⟩,zag rs⟩
 · rw [if_neg h,if_neg h]; exact ⟨by simp,⟨[],rfl⟩,rfl⟩
theorem only_told (k : Int) (t : List UInt8) (i p : Int) (c f : Bool) (o m w : Int) (g mb : List UInt8) (n b1 b2 b3 b4 b5 : Int) (rs : List Rec) (fl : Bool) (hL : (rs.map rv).length ≤ 9223372036854775807) :
   ∃ (t' : List UInt8) (i' p' : Int) (c' f' : Bool) (o' m' w' : Int) (g' mb' : List UInt8) (n' b1' b2' b3' b4' b5' : Int) (ys : List AV) (fm : Bool),
     onlyQ k t i p c f o m w g mb n b1 b2 b3 b4 b5 (rs.map rv) fl = .agg [.w (.int .u8 k),.str t',.w (.int .i64 i'),.w (.int .i64 p'),.w (.bool c'),.w (.bool f'),.w (.int .i64 o'),.w (.int .i64 m'),.w (.int .i64 w'),.str g',.str mb',.w (.int .i64 n'),.w (.int .i64 b1'),.w (.int .i64 b2'),.w (.int .i64 b3'),.w (.int .i64 b4'),.w (.int .i64 b5'),.sg 6 ys fm] ∧
     ys.length ≤ 9223372036854775807 ∧ (∃ qs : List Rec,ys = qs.map rv) ∧ eqQ k t i p c f o m w g mb n k t' i' p' c' f' o' m' w' g' mb' n' (zbw b1 b2 b3 b4 b5 rs b1' b2' b3' b4' b5' (ys.map rrec)) = zbu k t i p c f o m w g mb n b1 b2 b3 b4 b5 rs := by
 obtain ⟨h1,h2,h3⟩ := only_recs k rs hL
 refine ⟨_,_,_,_,_,_,_,_,_,_,_,_,_,_,_,_,_,_,rfl,h1,h2,?_⟩
 rw [h3]; rfl
def SchkQ (f : FuncId) : Option zak :=
 match f with
 | 65 => some zcy
 | 27 => some sreqS
 | 66 => some bchkS4
 | _ => none
theorem SchkQ_ok : Fns Try.prog SchkQ := by
 intro f s h
 unfold SchkQ at h
 split at h
 · injection h with h; subst h; exact ⟨⟨_,Try.func65,by kernel_rfl,by kernel_rfl⟩,just22_sound⟩
 · injection h with h; subst h; exact ⟨⟨_,Try.func27,by kernel_rfl,by kernel_rfl⟩,sreq22_sound⟩
 · injection h with h; subst h; exact ⟨⟨_,Try.func66,by kernel_rfl,by kernel_rfl⟩,bchk4_sound⟩
 · cases h
def chkQPl : Plan := fun id => match id with
 | 3 => some [(0,2)]
 | _ => none
section
set_option maxRecDepth 100000
set_option maxHeartbeats 8000000 in
theorem chkQ_sound : zaq Try.prog 43 chkQS := by
 refine zev (S := SchkQ) (T := ty) (pl := chkQPl) zau ty_ok SchkQ_ok Try.func43 (c := Try.f43.body.getD .skip) (by kernel_rfl) (by kernel_rfl) (fun xs pins hp _ => ?_)
 unfold chkQS at hp ⊢
 split at hp
 · rename_i k t i p c f o m w g mb n b1 b2 b3 b4 b5 xs fl _
   obtain ⟨hk0,hk1,hL,rs,rfl⟩ := hp
   rw [zag]
   refine ⟨by simp,?_⟩
   unfold Try.f43
   by_cases hk : 11 < k
   · have d1 := decide_eq_true hk
     have hv : chkQ k t i p c f o m w g mb n b1 b2 b3 b4 b5 rs = 22 := if_pos hk
     simp only [go_sem,coe,zac,Nat.reduceAdd,Nat.reduceSub,Nat.reduceMul,Int.reduceToNat,reduceCtorEq,↓reduceIte,Int.reducePow,Nat.reducePow,Int.reduceMod,Nat.reduceLeDiff,Int.reduceLE,Int.reduceNe,Int.reduceEq,Nat.reduceEqDiff,Nat.reduceLT,Nat.reduceBEq,List.map_cons,List.map_nil,List.toList_toArray,Array.toList_append,Option.toArray_some,Option.toArray_none,Bool.and_self,ty,SchkQ,chkQPl,d1,hv]
     exact zba 2 rfl
   have d1 := decide_eq_false hk
   have hk2 : k ≤ 11 := by omega
   have hmr := zag rs
   have hex : ∃ qs : List Rec,rs.map rv = qs.map rv := ⟨rs,rfl⟩
   obtain ⟨t',i',p',c',f',o',m',w',g',mb',n',b1',b2',b3',b4',b5',ys,fm,hO,hY1,hY2,hS⟩ := only_told k t i p c f o m w g mb n b1 b2 b3 b4 b5 rs fl hL
   have hv1 : ¬ zbu k t i p c f o m w g mb n b1 b2 b3 b4 b5 rs = true → chkQ k t i p c f o m w g mb n b1 b2 b3 b4 b5 rs = 4 := fun h => by unfold chkQ; rw [if_neg hk,if_pos (by simpa using h)]
   have hv2 : zbu k t i p c f o m w g mb n b1 b2 b3 b4 b5 rs = true → zeo t g mb → chkQ k t i p c f o m w g mb n b1 b2 b3 b4 b5 rs = 5 := fun h h2 => by unfold chkQ; rw [if_neg hk,if_neg (by rw [h]; decide),if_pos h2]
   have hv3 : zbu k t i p c f o m w g mb n b1 b2 b3 b4 b5 rs = true → ¬ zeo t g mb → k ≠ 3 → chkQ k t i p c f o m w g mb n b1 b2 b3 b4 b5 rs = 0 := fun h h2 h3 => by unfold chkQ; rw [if_neg hk,if_neg (by rw [h]; decide),if_neg h2,if_pos h3]
   have hv4 : zbu k t i p c f o m w g mb n b1 b2 b3 b4 b5 rs = true → ¬ zeo t g mb → k = 3 → batE 0 b2 b3 b4 b5 rs ≠ 0 → chkQ k t i p c f o m w g mb n b1 b2 b3 b4 b5 rs = batE 0 b2 b3 b4 b5 rs := fun h h2 h3 h4 => by unfold chkQ; rw [if_neg hk,if_neg (by rw [h]; decide),if_neg h2,if_neg (fun g => g h3),if_pos h4]
   have hv5 : zbu k t i p c f o m w g mb n b1 b2 b3 b4 b5 rs = true → ¬ zeo t g mb → k = 3 → batE 0 b2 b3 b4 b5 rs = 0 → chkQ k t i p c f o m w g mb n b1 b2 b3 b4 b5 rs = if b1 = 0 then 0 else 4 := fun h h2 h3 h4 => by
     unfold chkQ; rw [if_neg hk,if_neg (by rw [h]; decide),if_neg h2,if_neg (fun g => g h3),if_neg (fun g => g h4)]
     by_cases h5 : b1 = 0
     · rw [if_pos h5,if_neg (fun g => g h5)]
     · rw [if_neg h5,if_pos h5]
   obtain ⟨V,hV⟩ : ∃ x,chkQ k t i p c f o m w g mb n b1 b2 b3 b4 b5 rs = x := ⟨_,rfl⟩
   obtain ⟨S,hSS⟩ : ∃ x,zbu k t i p c f o m w g mb n b1 b2 b3 b4 b5 rs = x := ⟨_,rfl⟩
   rw [hSS] at hS hv1 hv2 hv3 hv4 hv5
   rw [hV] at hv1 hv2 hv3 hv4 hv5 ⊢
   cases S with
   | false =>
     have hv := hv1 (by decide)
     simp only [go_sem,coe,zac,Nat.reduceAdd,Nat.reduceSub,Nat.reduceMul,Int.reduceToNat,reduceCtorEq,↓reduceIte,Int.reducePow,Nat.reducePow,Int.reduceMod,Nat.reduceLeDiff,Int.reduceLE,Int.reduceNe,Int.reduceEq,Nat.reduceEqDiff,Nat.reduceLT,Nat.reduceBEq,List.map_cons,List.map_nil,List.toList_toArray,Array.toList_append,Option.toArray_some,Option.toArray_none,Bool.and_self,ty,SchkQ,chkQPl,zcy,sreqS,d1,hk0,hk2,hO,hL,hex,hmr,hY1,hY2,hS,hv]
     exact zba 2 rfl
   | true =>
     rcases long_cases t g mb with D | D | D | D
     rotate_right 1
     · have hnl : ¬ zeo t g mb := D.2.2.2
       by_cases hk3 : k = 3
       · have d2 := decide_eq_true hk3
         by_cases he : batE 0 b2 b3 b4 b5 rs = 0
         · by_cases hb : b1 = 0
           · have d4 := decide_eq_true hb
             have hv := hv5 rfl hnl hk3 he
             rw [if_pos hb] at hv
             simp only [go_sem,coe,zac,Nat.reduceAdd,Nat.reduceSub,Nat.reduceMul,Int.reduceToNat,reduceCtorEq,↓reduceIte,Int.reducePow,Nat.reducePow,Int.reduceMod,Nat.reduceLeDiff,Int.reduceLE,Int.reduceNe,Int.reduceEq,Nat.reduceEqDiff,Nat.reduceLT,Nat.reduceBEq,List.map_cons,List.map_nil,List.toList_toArray,Array.toList_append,Option.toArray_some,Option.toArray_none,Bool.and_self,ty,SchkQ,chkQPl,zcy,sreqS,bchkS4,d1,d2,d4,hk0,hk2,hO,hL,hex,hmr,hY1,hY2,hS,D,he,hv]
             exact zba 2 rfl
           · have d4 := decide_eq_false hb
             have hv := hv5 rfl hnl hk3 he
             rw [if_neg hb] at hv
             simp only [go_sem,coe,zac,Nat.reduceAdd,Nat.reduceSub,Nat.reduceMul,Int.reduceToNat,reduceCtorEq,↓reduceIte,Int.reducePow,Nat.reducePow,Int.reduceMod,Nat.reduceLeDiff,Int.reduceLE,Int.reduceNe,Int.reduceEq,Nat.reduceEqDiff,Nat.reduceLT,Nat.reduceBEq,List.map_cons,List.map_nil,List.toList_toArray,Array.toList_append,Option.toArray_some,Option.toArray_none,Bool.and_self,ty,SchkQ,chkQPl,zcy,sreqS,bchkS4,d1,d2,d4,hk0,hk2,hO,hL,hex,hmr,hY1,hY2,hS,D,he,hv]
             exact zba 2 rfl
         · have d3 := decide_eq_false he
           have hv := hv4 rfl hnl hk3 he
           simp only [go_sem,coe,zac,Nat.reduceAdd,Nat.reduceSub,Nat.reduceMul,Int.reduceToNat,reduceCtorEq,↓reduceIte,Int.reducePow,Nat.reducePow,Int.reduceMod,Nat.reduceLeDiff,Int.reduceLE,Int.reduceNe,Int.reduceEq,Nat.reduceEqDiff,Nat.reduceLT,Nat.reduceBEq,List.map_cons,List.map_nil,List.toList_toArray,Array.toList_append,Option.toArray_some,Option.toArray_none,Bool.and_self,ty,SchkQ,chkQPl,zcy,sreqS,bchkS4,d1,d2,d3,hk0,hk2,hO,hL,hex,hmr,hY1,hY2,hS,D,hv]
           exact zba 2 rfl
       · have d2 := decide_eq_false hk3
         have hv := hv3 rfl hnl hk3
         simp only [go_sem,coe,zac,Nat.reduceAdd,Nat.reduceSub,Nat.reduceMul,Int.reduceToNat,reduceCtorEq,↓reduceIte,Int.reducePow,Nat.reducePow,Int.reduceMod,Nat.reduceLeDiff,Int.reduceLE,Int.reduceNe,Int.reduceEq,Nat.reduceEqDiff,Nat.reduceLT,Nat.reduceBEq,List.map_cons,List.map_nil,List.toList_toArray,Array.toList_append,Option.toArray_some,Option.toArray_none,Bool.and_self,ty,SchkQ,chkQPl,zcy,sreqS,bchkS4,d1,d2,hk0,hk2,hO,hL,hex,hmr,hY1,hY2,hS,D,hv]
         exact zba 2 rfl
     all_goals
       have hv := hv2 rfl (by first | exact D.2 | exact D.2.2 | exact D.2.2.2)
       simp only [go_sem,coe,zac,Nat.reduceAdd,Nat.reduceSub,Nat.reduceMul,Int.reduceToNat,reduceCtorEq,↓reduceIte,Int.reducePow,Nat.reducePow,Int.reduceMod,Nat.reduceLeDiff,Int.reduceLE,Int.reduceNe,Int.reduceEq,Nat.reduceEqDiff,Nat.reduceLT,Nat.reduceBEq,List.map_cons,List.map_nil,List.toList_toArray,Array.toList_append,Option.toArray_some,Option.toArray_none,Bool.and_self,ty,SchkQ,chkQPl,zcy,sreqS,d1,hk0,hk2,hO,hL,hex,hmr,hY1,hY2,hS,D,hv]
       exact zba 2 rfl
 · exact hp.elim
end
end Go.Proofs.Ytihbcgbmlecpbaa
namespace Go.Proofs.Ytihbcgbmlecpbaa
open Ax
theorem zas {T : zae} {sl : List AV} {H : Heap} {nx id n : Nat} {bs rs : List UInt8} {e e' : Value} {q : Prop} (i j : Nat) (hij : i ≠ j) (h2 : slot sl i = .ms id 1 0 n) (h3 : slot sl j = .w e) (hl : Ax.look H id = some (.b bs)) (hn : n = bs.length) (hr : rs = bs) (he : e' = e) :
   EndsW T [.tmp i,.tmp j] [] ⟨q,.tup [.ms 0 1 0 rs.length,.w e'],[.b rs]⟩ .ret ⟨sl,H,nx⟩ := by
 subst hn hr he
 refine ⟨_,Weak.refl _,?_⟩
 simp only [Ax.Ends,Ax.rvals,EndsX,rone,h2,h3,AV.ids,idsL,newIds,upTo,nodup,pinsOf,hl,List.nil_append,List.append_nil,AV.ren,renL,gOf,and_self]
 simp [pinsOf,newIds,nodup,hl,gOf,Blk.closed]
theorem zat {T : zae} {sl : List AV} {H : Heap} {nx : Nat} {e e' : Value} {q : Prop} {rs : List UInt8} (i j : Nat) (hij : i ≠ j) (h2 : slot sl i = .sg 1 [] true) (h3 : slot sl j = .w e) (hr : rs = []) (he : e' = e) :
   EndsW T [.tmp i,.tmp j] [] ⟨q,.tup [.ms 0 1 0 rs.length,.w e'],[.b rs]⟩ .ret ⟨sl,H,nx⟩ := by
 subst hr he
 have hi : i < sl.length := by
   rcases Nat.lt_or_ge i sl.length with h | h
   · exact h
   · rw [slot_ge h] at h2; cases h2
 obtain ⟨σ',h5,h6⟩ := zas (T := T) (sl := setSlot sl i (.ms nx 1 0 0)) (H := Ax.put H nx (.b [])) (nx := nx + 1) (q := q) i j hij (id := nx) (n := 0) (bs := []) (rs := []) (e := e') (e' := e') (zcl hi) (by rw [zcb hij]; exact h3) (by simp [Ax.put,Ax.look]) rfl rfl rfl
 exact ⟨σ',(zer i 1 (.b []) rfl (by rw [h2]; exact trivial)).trans h5,h6⟩
def pq (n : Int) : List UInt8 := putU (zz n).toNat
theorem zbr (n : Int) : putU (zz n).toNat = pq n := rfl
theorem zcf (n : Int) (h : okI n) : (pq n).length ≤ 10 := by
 have := zda n h.1 h.2
 exact zay _ (by omega)
theorem zav (s : List UInt8) (h : s.length ≤ 1000000) : (zaw s).length ≤ s.length + 10 := by
 unfold zaw
 have := zay (2 * s.length) (by omega)
 rw [List.length_append]; omega
def bitN (b : Bool) : Int := if b then 1 else 0
def bitS22 : zak
 | [.w (.bool b)],[] => ⟨True,.w (.int .u8 (bitN b)),[]⟩
 | _,_ => zbd
theorem zfs (b c p e s : Int) (rs : List Rec) : (batB b c p e s rs).length ≤ 8192 := by
 unfold batB
 by_cases h : batE b c p e s rs = 0
 · rw [if_pos h]
   unfold batE at h
   repeat' split at h
   all_goals omega
 · rw [if_neg h]; simp
def zbz (x : Int) (t : List UInt8) (i p : Int) (c f : Bool) (o m w : Int) (g mb : List UInt8) (n b1 b2 b3 b4 b5 : Int) (rs : List Rec) : List UInt8 :=
 if x = 116 then zaw t
 else if x = 103 then zaw g
 else if x = 107 then zaw mb
 else if x = 99 then [UInt8.ofNat (bitN c).toNat]
 else if x = 102 then [UInt8.ofNat (bitN f).toNat]
 else if x = 105 then pq i
 else if x = 112 then pq p
 else if x = 111 then pq o
 else if x = 109 then pq m
 else if x = 119 then pq w
 else if x = 110 then pq n
 else zaw (batB b1 b2 b3 b4 b5 rs)
def zeg (x : Int) (b1 b2 b3 b4 b5 : Int) (rs : List Rec) : Int := if x = 116 ∨ x = 103 ∨ x = 107 ∨ x = 99 ∨ x = 102 ∨ x = 105 ∨ x = 112 ∨ x = 111 ∨ x = 109 ∨ x = 119 ∨ x = 110 then 0 else batE b1 b2 b3 b4 b5 rs
def lenQ (t g mb : List UInt8) : Prop := t.length ≤ 1000000 ∧ g.length ≤ 1000000 ∧ mb.length ≤ 1000000
def intQ (i p o m w n : Int) : Prop := okI i ∧ okI p ∧ okI o ∧ okI m ∧ okI w ∧ okI n
def fieldS : zak
 | [.agg [.w (.int .u8 k),.str t,.w (.int .i64 i),.w (.int .i64 p),.w (.bool c),.w (.bool f),.w (.int .i64 o),.w (.int .i64 m),.w (.int .i64 w),.str g,.str mb,.w (.int .i64 n),.w (.int .i64 b1),.w (.int .i64 b2),.w (.int .i64 b3),.w (.int .i64 b4),.w (.int .i64 b5),.sg 6 xs fl],.w (.int .i32 x)],[] => ⟨lenQ t g mb ∧ intQ i p o m w n ∧ xs.length ≤ 9223372036854775807 ∧ ∃ rs : List Rec,xs = rs.map rv,
     .tup [.ms 0 1 0 (zbz x t i p c f o m w g mb n b1 b2 b3 b4 b5 (xs.map rrec)).length,.w (.int .i64 (zeg x b1 b2 b3 b4 b5 (xs.map rrec)))],[.b (zbz x t i p c f o m w g mb n b1 b2 b3 b4 b5 (xs.map rrec))]⟩
 | _,_ => zbd
section
set_option maxRecDepth 100000
theorem bit22_sound : zaq Try.prog 69 bitS22 := by
 refine zal (S := noS) (T := ty) zau ty_ok zbs Try.func69 (c := Try.f69.body.getD .skip) (by kernel_rfl) (by kernel_rfl) (fun xs pins hp _ => ?_)
 unfold bitS22 at hp ⊢
 split at hp
 · rename_i b _
   refine ⟨by simp,?_⟩
   unfold Try.f69
   cases b
   all_goals simp only [go_sem,coe,zaa,Nat.reduceAdd,Nat.reduceSub,Nat.reduceMul,Int.reduceToNat,reduceCtorEq,↓reduceIte,Int.reducePow,Nat.reducePow,Int.reduceMod,Nat.reduceLeDiff,Int.reduceLE,Int.reduceNe,Int.reduceEq,Nat.reduceEqDiff,Nat.reduceLT,Nat.reduceBEq,ty,noS,bitN,if_true,if_false,Bool.false_eq_true]
 · exact hp.elim
end
def zcp (f : FuncId) : Option zak :=
 match f with
 | 30 => some zcd
 | 23 => some putS
 | 69 => some bitS22
 | 71 => some zcj
 | _ => none
theorem Sfield22_ok : Fns Try.prog zcp := by
 intro f s h
 unfold zcp at h
 split at h
 · injection h with h; subst h; exact ⟨⟨_,Try.func30,by kernel_rfl,by kernel_rfl⟩,text_sound⟩
 · injection h with h; subst h; exact ⟨⟨_,Try.func23,by kernel_rfl,by kernel_rfl⟩,put_sound⟩
 · injection h with h; subst h; exact ⟨⟨_,Try.func69,by kernel_rfl,by kernel_rfl⟩,bit22_sound⟩
 · injection h with h; subst h; exact ⟨⟨_,Try.func71,by kernel_rfl,by kernel_rfl⟩,bput4_sound⟩
 · cases h
def zcg : XPlan := fun id => match id with
 | 1 => .opn [] 1
 | 4 => .opn [] 1
 | 7 => .opn [] 1
 | _ => .std
section
set_option maxRecDepth 100000
set_option maxHeartbeats 8000000 in
theorem field22_sound : zaq Try.prog 45 fieldS := by
 refine zbx (S := zcp) (SO := zch) (T := ty) zau ty_ok Sfield22_ok Ojust22_ok Try.func45 (c := Try.f45.body.getD .skip) (by kernel_rfl) (fun xs pins hp _ => ?_)
 unfold fieldS at hp ⊢
 split at hp
 · rename_i k t i p c f o m w g mb n b1 b2 b3 b4 b5 xs fl x _
   obtain ⟨⟨q1,q2,q3⟩,⟨r1,r2,r3,r4,r5,r6⟩,hL,rs,rfl⟩ := hp
   unfold okI at r1 r2 r3 r4 r5 r6
   rw [zag]
   have hmr := zag rs
   have hex : ∃ qs : List Rec,rs.map rv = qs.map rv := ⟨rs,rfl⟩
   have tk : ∀ l : List UInt8,List.take l.length l = l := fun l => List.take_length
   refine ⟨by simp,zcg,by kernel_rfl,?_⟩
   unfold Try.f45
   by_cases h116 : x = 116
   · subst h116
     have hp1 : zbz 116 t i p c f o m w g mb n b1 b2 b3 b4 b5 rs = zaw t := rfl
     have hp2 : zeg 116 b1 b2 b3 b4 b5 rs = 0 := rfl
     rw [hp1,hp2]
     simp only [go_sem,zab,Nat.reduceAdd,Nat.reduceSub,Nat.reduceMul,Int.reduceToNat,reduceCtorEq,↓reduceIte,Int.reducePow,Nat.reducePow,Int.reduceMod,Nat.reduceLeDiff,Int.reduceLE,Int.reduceNe,Int.reduceEq,Nat.reduceEqDiff,Nat.reduceLT,Nat.reduceBEq,List.map_cons,List.map_nil,List.toList_toArray,Array.toList_append,Option.toArray_some,Option.toArray_none,Bool.and_self,ty,zcp,zch,zcg,textO,yesO,numbO,textF,yesF,zfh,zdq,zcd,putS,bitS22,q1,q2,q3,r1,r2,r3,r4,r5,r6,zbr,tk,Int.reduceEq,Nat.reduceEqDiff,or_self,or_false,false_or,or_true,true_or,if_true,if_false]
     exact zas 4 5 (by decide) rfl rfl rfl rfl rfl rfl
   have d116 := decide_eq_false h116
   by_cases h103 : x = 103
   · subst h103
     have hp1 : zbz 103 t i p c f o m w g mb n b1 b2 b3 b4 b5 rs = zaw g := rfl
     have hp2 : zeg 103 b1 b2 b3 b4 b5 rs = 0 := rfl
     rw [hp1,hp2]
     simp only [go_sem,zab,Nat.reduceAdd,Nat.reduceSub,Nat.reduceMul,Int.reduceToNat,reduceCtorEq,↓reduceIte,Int.reducePow,Nat.reducePow,Int.reduceMod,Nat.reduceLeDiff,Int.reduceLE,Int.reduceNe,Int.reduceEq,Nat.reduceEqDiff,Nat.reduceLT,Nat.reduceBEq,List.map_cons,List.map_nil,List.toList_toArray,Array.toList_append,Option.toArray_some,Option.toArray_none,Bool.and_self,ty,zcp,zch,zcg,textO,yesO,numbO,textF,yesF,zfh,zdq,zcd,putS,bitS22,q1,q2,q3,r1,r2,r3,r4,r5,r6,zbr,tk,Int.reduceEq,Nat.reduceEqDiff,or_self,or_false,false_or,or_true,true_or,if_true,if_false]
     exact zas 4 5 (by decide) rfl rfl rfl rfl rfl rfl
   have d103 := decide_eq_false h103
   by_cases h107 : x = 107
   · subst h107
     have hp1 : zbz 107 t i p c f o m w g mb n b1 b2 b3 b4 b5 rs = zaw mb := rfl
     have hp2 : zeg 107 b1 b2 b3 b4 b5 rs = 0 := rfl
     rw [hp1,hp2]
     simp only [go_sem,zab,Nat.reduceAdd,Nat.reduceSub,Nat.reduceMul,Int.reduceToNat,reduceCtorEq,↓reduceIte,Int.reducePow,Nat.reducePow,Int.reduceMod,Nat.reduceLeDiff,Int.reduceLE,Int.reduceNe,Int.reduceEq,Nat.reduceEqDiff,Nat.reduceLT,Nat.reduceBEq,List.map_cons,List.map_nil,List.toList_toArray,Array.toList_append,Option.toArray_some,Option.toArray_none,Bool.and_self,ty,zcp,zch,zcg,textO,yesO,numbO,textF,yesF,zfh,zdq,zcd,putS,bitS22,q1,q2,q3,r1,r2,r3,r4,r5,r6,zbr,tk,Int.reduceEq,Nat.reduceEqDiff,or_self,or_false,false_or,or_true,true_or,if_true,if_false]
     exact zas 4 5 (by decide) rfl rfl rfl rfl rfl rfl
   have d107 := decide_eq_false h107
   by_cases h99 : x = 99
   · subst h99
     have hp1 : zbz 99 t i p c f o m w g mb n b1 b2 b3 b4 b5 rs = [UInt8.ofNat (bitN c).toNat] := rfl
     have hp2 : zeg 99 b1 b2 b3 b4 b5 rs = 0 := rfl
     rw [hp1,hp2]
     simp only [go_sem,zab,Nat.reduceAdd,Nat.reduceSub,Nat.reduceMul,Int.reduceToNat,reduceCtorEq,↓reduceIte,Int.reducePow,Nat.reducePow,Int.reduceMod,Nat.reduceLeDiff,Int.reduceLE,Int.reduceNe,Int.reduceEq,Nat.reduceEqDiff,Nat.reduceLT,Nat.reduceBEq,List.map_cons,List.map_nil,List.toList_toArray,Array.toList_append,Option.toArray_some,Option.toArray_none,Bool.and_self,ty,zcp,zch,zcg,textO,yesO,numbO,textF,yesF,zfh,zdq,zcd,putS,bitS22,q1,q2,q3,r1,r2,r3,r4,r5,r6,zbr,tk,Int.reduceEq,Nat.reduceEqDiff,or_self,or_false,false_or,or_true,true_or,if_true,if_false]
     repeat (refine And.intro (by cases c <;> decide) ?_)
     exact zas 4 5 (by decide) rfl rfl rfl rfl rfl rfl
   have d99 := decide_eq_false h99
   by_cases h102 : x = 102
   · subst h102
     have hp1 : zbz 102 t i p c f o m w g mb n b1 b2 b3 b4 b5 rs = [UInt8.ofNat (bitN f).toNat] := rfl
     have hp2 : zeg 102 b1 b2 b3 b4 b5 rs = 0 := rfl
     rw [hp1,hp2]
     simp only [go_sem,zab,Nat.reduceAdd,Nat.reduceSub,Nat.reduceMul,Int.reduceToNat,reduceCtorEq,↓reduceIte,Int.reducePow,Nat.reducePow,Int.reduceMod,Nat.reduceLeDiff,Int.reduceLE,Int.reduceNe,Int.reduceEq,Nat.reduceEqDiff,Nat.reduceLT,Nat.reduceBEq,List.map_cons,List.map_nil,List.toList_toArray,Array.toList_append,Option.toArray_some,Option.toArray_none,Bool.and_self,ty,zcp,zch,zcg,textO,yesO,numbO,textF,yesF,zfh,zdq,zcd,putS,bitS22,q1,q2,q3,r1,r2,r3,r4,r5,r6,zbr,tk,Int.reduceEq,Nat.reduceEqDiff,or_self,or_false,false_or,or_true,true_or,if_true,if_false]
     repeat (refine And.intro (by cases f <;> decide) ?_)
     exact zas 4 5 (by decide) rfl rfl rfl rfl rfl rfl
   have d102 := decide_eq_false h102
   by_cases h105 : x = 105
   · subst h105
     have hp1 : zbz 105 t i p c f o m w g mb n b1 b2 b3 b4 b5 rs = pq i := rfl
     have hp2 : zeg 105 b1 b2 b3 b4 b5 rs = 0 := rfl
     rw [hp1,hp2]
     simp only [go_sem,zab,Nat.reduceAdd,Nat.reduceSub,Nat.reduceMul,Int.reduceToNat,reduceCtorEq,↓reduceIte,Int.reducePow,Nat.reducePow,Int.reduceMod,Nat.reduceLeDiff,Int.reduceLE,Int.reduceNe,Int.reduceEq,Nat.reduceEqDiff,Nat.reduceLT,Nat.reduceBEq,List.map_cons,List.map_nil,List.toList_toArray,Array.toList_append,Option.toArray_some,Option.toArray_none,Bool.and_self,ty,zcp,zch,zcg,textO,yesO,numbO,textF,yesF,zfh,zdq,zcd,putS,bitS22,q1,q2,q3,r1,r2,r3,r4,r5,r6,zbr,tk,Int.reduceEq,Nat.reduceEqDiff,or_self,or_false,false_or,or_true,true_or,if_true,if_false]
     exact zas 4 5 (by decide) rfl rfl rfl rfl rfl rfl
   have d105 := decide_eq_false h105
   by_cases h112 : x = 112
   · subst h112
     have hp1 : zbz 112 t i p c f o m w g mb n b1 b2 b3 b4 b5 rs = pq p := rfl
     have hp2 : zeg 112 b1 b2 b3 b4 b5 rs = 0 := rfl
     rw [hp1,hp2]
     simp only [go_sem,zab,Nat.reduceAdd,Nat.reduceSub,Nat.reduceMul,Int.reduceToNat,reduceCtorEq,↓reduceIte,Int.reducePow,Nat.reducePow,Int.reduceMod,Nat.reduceLeDiff,Int.reduceLE,Int.reduceNe,Int.reduceEq,Nat.reduceEqDiff,Nat.reduceLT,Nat.reduceBEq,List.map_cons,List.map_nil,List.toList_toArray,Array.toList_append,Option.toArray_some,Option.toArray_none,Bool.and_self,ty,zcp,zch,zcg,textO,yesO,numbO,textF,yesF,zfh,zdq,zcd,putS,bitS22,q1,q2,q3,r1,r2,r3,r4,r5,r6,zbr,tk,Int.reduceEq,Nat.reduceEqDiff,or_self,or_false,false_or,or_true,true_or,if_true,if_false]
     exact zas 4 5 (by decide) rfl rfl rfl rfl rfl rfl
   have d112 := decide_eq_false h112
   by_cases h111 : x = 111
   · subst h111
     have hp1 : zbz 111 t i p c f o m w g mb n b1 b2 b3 b4 b5 rs = pq o := rfl
     have hp2 : zeg 111 b1 b2 b3 b4 b5 rs = 0 := rfl
     rw [hp1,hp2]
     simp only [go_sem,zab,Nat.reduceAdd,Nat.reduceSub,Nat.reduceMul,Int.reduceToNat,reduceCtorEq,↓reduceIte,Int.reducePow,Nat.reducePow,Int.reduceMod,Nat.reduceLeDiff,Int.reduceLE,Int.reduceNe,Int.reduceEq,Nat.reduceEqDiff,Nat.reduceLT,Nat.reduceBEq,List.map_cons,List.map_nil,List.toList_toArray,Array.toList_append,Option.toArray_some,Option.toArray_none,Bool.and_self,ty,zcp,zch,zcg,textO,yesO,numbO,textF,yesF,zfh,zdq,zcd,putS,bitS22,q1,q2,q3,r1,r2,r3,r4,r5,r6,zbr,tk,Int.reduceEq,Nat.reduceEqDiff,or_self,or_false,false_or,or_true,true_or,if_true,if_false]
     exact zas 4 5 (by decide) rfl rfl rfl rfl rfl rfl
   have d111 := decide_eq_false h111
   by_cases h109 : x = 109
   · subst h109
     have hp1 : zbz 109 t i p c f o m w g mb n b1 b2 b3 b4 b5 rs = pq m := rfl
     have hp2 : zeg 109 b1 b2 b3 b4 b5 rs = 0 := rfl
     rw [hp1,hp2]
     simp only [go_sem,zab,Nat.reduceAdd,Nat.reduceSub,Nat.reduceMul,Int.reduceToNat,reduceCtorEq,↓reduceIte,Int.reducePow,Nat.reducePow,Int.reduceMod,Nat.reduceLeDiff,Int.reduceLE,Int.reduceNe,Int.reduceEq,Nat.reduceEqDiff,Nat.reduceLT,Nat.reduceBEq,List.map_cons,List.map_nil,List.toList_toArray,Array.toList_append,Option.toArray_some,Option.toArray_none,Bool.and_self,ty,zcp,zch,zcg,textO,yesO,numbO,textF,yesF,zfh,zdq,zcd,putS,bitS22,q1,q2,q3,r1,r2,r3,r4,r5,r6,zbr,tk,Int.reduceEq,Nat.reduceEqDiff,or_self,or_false,false_or,or_true,true_or,if_true,if_false]
     exact zas 4 5 (by decide) rfl rfl rfl rfl rfl rfl
   have d109 := decide_eq_false h109
   by_cases h119 : x = 119
   · subst h119
     have hp1 : zbz 119 t i p c f o m w g mb n b1 b2 b3 b4 b5 rs = pq w := rfl
     have hp2 : zeg 119 b1 b2 b3 b4 b5 rs = 0 := rfl
     rw [hp1,hp2]
     simp only [go_sem,zab,Nat.reduceAdd,Nat.reduceSub,Nat.reduceMul,Int.reduceToNat,reduceCtorEq,↓reduceIte,Int.reducePow,Nat.reducePow,Int.reduceMod,Nat.reduceLeDiff,Int.reduceLE,Int.reduceNe,Int.reduceEq,Nat.reduceEqDiff,Nat.reduceLT,Nat.reduceBEq,List.map_cons,List.map_nil,List.toList_toArray,Array.toList_append,Option.toArray_some,Option.toArray_none,Bool.and_self,ty,zcp,zch,zcg,textO,yesO,numbO,textF,yesF,zfh,zdq,zcd,putS,bitS22,q1,q2,q3,r1,r2,r3,r4,r5,r6,zbr,tk,Int.reduceEq,Nat.reduceEqDiff,or_self,or_false,false_or,or_true,true_or,if_true,if_false]
     exact zas 4 5 (by decide) rfl rfl rfl rfl rfl rfl
   have d119 := decide_eq_false h119
   by_cases h110 : x = 110
   · subst h110
     have hp1 : zbz 110 t i p c f o m w g mb n b1 b2 b3 b4 b5 rs = pq n := rfl
     have hp2 : zeg 110 b1 b2 b3 b4 b5 rs = 0 := rfl
     rw [hp1,hp2]
     simp only [go_sem,zab,Nat.reduceAdd,Nat.reduceSub,Nat.reduceMul,Int.reduceToNat,reduceCtorEq,↓reduceIte,Int.reducePow,Nat.reducePow,Int.reduceMod,Nat.reduceLeDiff,Int.reduceLE,Int.reduceNe,Int.reduceEq,Nat.reduceEqDiff,Nat.reduceLT,Nat.reduceBEq,List.map_cons,List.map_nil,List.toList_toArray,Array.toList_append,Option.toArray_some,Option.toArray_none,Bool.and_self,ty,zcp,zch,zcg,textO,yesO,numbO,textF,yesF,zfh,zdq,zcd,putS,bitS22,q1,q2,q3,r1,r2,r3,r4,r5,r6,zbr,tk,Int.reduceEq,Nat.reduceEqDiff,or_self,or_false,false_or,or_true,true_or,if_true,if_false]
     exact zas 4 5 (by decide) rfl rfl rfl rfl rfl rfl
   have d110 := decide_eq_false h110
   have hp1 : zbz x t i p c f o m w g mb n b1 b2 b3 b4 b5 rs = zaw (batB b1 b2 b3 b4 b5 rs) := by unfold zbz; simp only [h116,h103,h107,h99,h102,h105,h112,h111,h109,h119,h110,if_false]
   have hp2 : zeg x b1 b2 b3 b4 b5 rs = batE b1 b2 b3 b4 b5 rs := by unfold zeg; simp only [h116,h103,h107,h99,h102,h105,h112,h111,h109,h119,h110,or_self,if_false]
   have e1 : textF x = 0 := by unfold textF; simp only [h116,h103,h107,h99,h102,h105,h112,h111,h109,h119,h110,if_false]
   have e2 : yesF x = 0 := by unfold yesF; simp only [h116,h103,h107,h99,h102,h105,h112,h111,h109,h119,h110,if_false]
   have e3 : zfh x = 0 := by unfold zfh; simp only [h116,h103,h107,h99,h102,h105,h112,h111,h109,h119,h110,if_false]
   have hbl : (batB b1 b2 b3 b4 b5 rs).length ≤ 1000000 := by have := zfs b1 b2 b3 b4 b5 rs; omega
   rw [hp1,hp2]
   simp only [go_sem,zab,Nat.reduceAdd,Nat.reduceSub,Nat.reduceMul,Int.reduceToNat,reduceCtorEq,↓reduceIte,Int.reducePow,Nat.reducePow,Int.reduceMod,Nat.reduceLeDiff,Int.reduceLE,Int.reduceNe,Int.reduceEq,Nat.reduceEqDiff,Nat.reduceLT,Nat.reduceBEq,List.map_cons,List.map_nil,List.toList_toArray,Array.toList_append,Option.toArray_some,Option.toArray_none,Bool.and_self,ty,zcp,zch,zcg,textO,yesO,numbO,e1,e2,e3,zdq,zcd,putS,bitS22,zcj,hL,hex,hmr,hbl,zbr,tk,Int.reduceEq,Nat.reduceEqDiff,or_self,or_false,false_or,or_true,true_or,if_true,if_false]
   exact zas 4 5 (by decide) rfl rfl rfl rfl rfl rfl
 · exact hp.elim
end
end Go.Proofs.Ytihbcgbmlecpbaa
namespace Go.Proofs.Ytihbcgbmlecpbaa
open Ax
def layQ (k : Int) (t : List UInt8) (i p : Int) (c f : Bool) (o m w : Int) (g mb : List UInt8) (n b1 b2 b3 b4 b5 : Int) (rs : List Rec) : List UInt8 := UInt8.ofNat k.toNat :: (zcq k).flatMap fun x => zbz (x.toNat : Int) t i p c f o m w g mb n b1 b2 b3 b4 b5 rs
def putQ (k : Int) (t : List UInt8) (i p : Int) (c f : Bool) (o m w : Int) (g mb : List UInt8) (n b1 b2 b3 b4 b5 : Int) (rs : List Rec) : List UInt8 := if chkQ k t i p c f o m w g mb n b1 b2 b3 b4 b5 rs = 0 then layQ k t i p c f o m w g mb n b1 b2 b3 b4 b5 rs else []
def putQS : zak
 | [.agg [.w (.int .u8 k),.str t,.w (.int .i64 i),.w (.int .i64 p),.w (.bool c),.w (.bool f),.w (.int .i64 o),.w (.int .i64 m),.w (.int .i64 w),.str g,.str mb,.w (.int .i64 n),.w (.int .i64 b1),.w (.int .i64 b2),.w (.int .i64 b3),.w (.int .i64 b4),.w (.int .i64 b5),.sg 6 xs fl]],[] => ⟨0 ≤ k ∧ k < 256 ∧ lenQ t g mb ∧ intQ i p o m w n ∧ xs.length ≤ 40 ∧ ∃ rs : List Rec,xs = rs.map rv,
     .tup [.ms 0 1 0 (putQ k t i p c f o m w g mb n b1 b2 b3 b4 b5 (xs.map rrec)).length,.w (.int .i64 (chkQ k t i p c f o m w g mb n b1 b2 b3 b4 b5 (xs.map rrec)))],[.b (putQ k t i p c f o m w g mb n b1 b2 b3 b4 b5 (xs.map rrec))]⟩
 | _,_ => zbd
theorem chkQ_ok {k : Int} {t : List UInt8} {i p : Int} {c f : Bool} {o m w : Int} {g mb : List UInt8} {n b1 b2 b3 b4 b5 : Int} (rs : List Rec) (h : chkQ k t i p c f o m w g mb n b1 b2 b3 b4 b5 rs = 0) : k ≤ 11 ∧ zbu k t i p c f o m w g mb n b1 b2 b3 b4 b5 rs = true ∧ ¬ zeo t g mb ∧ (k = 3 → batE 0 b2 b3 b4 b5 rs = 0 ∧ b1 = 0) := by
 unfold chkQ at h
 by_cases h1 : 11 < k
 · rw [if_pos h1] at h; omega
 · rw [if_neg h1] at h
   by_cases h2 : zbu k t i p c f o m w g mb n b1 b2 b3 b4 b5 rs = false
   · rw [if_pos h2] at h; omega
   · rw [if_neg h2] at h
     by_cases h3 : zeo t g mb
     · rw [if_pos h3] at h; omega
     · rw [if_neg h3] at h
       refine ⟨by omega,by simpa using h2,h3,fun hk => ?_⟩
       rw [if_neg (fun g => g hk)] at h
       by_cases h4 : batE 0 b2 b3 b4 b5 rs = 0
       · rw [if_neg (fun g => g h4)] at h
         by_cases h5 : b1 = 0
         · exact ⟨h4,h5⟩
         · rw [if_pos h5] at h; omega
       · rw [if_pos h4] at h; exact (h4 h).elim
def SputQ (f : FuncId) : Option zak :=
 match f with
 | 43 => some chkQS
 | 44 => some usesS
 | 45 => some fieldS
 | _ => none
theorem SputQ_ok : Fns Try.prog SputQ := by
 intro f s h
 unfold SputQ at h
 split at h
 · injection h with h; subst h; exact ⟨⟨_,Try.func43,by kernel_rfl,by kernel_rfl⟩,chkQ_sound⟩
 · injection h with h; subst h; exact ⟨⟨_,Try.func44,by kernel_rfl,by kernel_rfl⟩,uses22_sound⟩
 · injection h with h; subst h; exact ⟨⟨_,Try.func45,by kernel_rfl,by kernel_rfl⟩,field22_sound⟩
 · cases h
theorem usesL_cases (P : List UInt8 → Int → Prop) (h : P [116,112,99] 0 ∧ P [116] 1 ∧ P [116] 2 ∧ P [116,105,102,98] 3 ∧ P [116,105,111,109] 4 ∧ P [116,105,119] 5 ∧ P [103,107] 6 ∧ P [116,103,107,110] 7 ∧ P [103,107,110] 8 ∧ P [103,107] 9 ∧ P [116,105,111,103,107,110] 10 ∧ P [116,105,103] 11 ∧ ∀ k,P [] k) (k : Int) : P (zcq k) k := by
 obtain ⟨a0,a1,a2,a3,a4,a5,a6,a7,a8,a9,a10,a11,a12⟩ := h
 unfold zcq
 by_cases h0 : k = 0; · rw [if_pos h0,h0]; exact a0
 rw [if_neg h0]
 by_cases h1 : k = 1; · rw [if_pos h1,h1]; exact a1
 rw [if_neg h1]
 by_cases h2 : k = 2; · rw [if_pos h2,h2]; exact a2
 rw [if_neg h2]
 by_cases h3 : k = 3; · rw [if_pos h3,h3]; exact a3
 rw [if_neg h3]
 by_cases h4 : k = 4; · rw [if_pos h4,h4]; exact a4
 rw [if_neg h4]
 by_cases h5 : k = 5; · rw [if_pos h5,h5]; exact a5
 rw [if_neg h5]
 by_cases h6 : k = 6; · rw [if_pos h6,h6]; exact a6
 rw [if_neg h6]
 by_cases h7 : k = 7; · rw [if_pos h7,h7]; exact a7
 rw [if_neg h7]
 by_cases h8 : k = 8; · rw [if_pos h8,h8]; exact a8
 rw [if_neg h8]
 by_cases h9 : k = 9; · rw [if_pos h9,h9]; exact a9
 rw [if_neg h9]
 by_cases h10 : k = 10; · rw [if_pos h10,h10]; exact a10
 rw [if_neg h10]
 by_cases h11 : k = 11; · rw [if_pos h11,h11]; exact a11
 rw [if_neg h11]
 exact a12 k
def decOk22 (l : List UInt8) : Bool := (List.range l.length).all fun j => decR l j == (l.getD j 0).toNat && decW l j == 1
theorem uses_dec (k : Int) : ∀ j,j < (zcq k).length → decR (zcq k) j = ((zcq k).getD j 0).toNat ∧ decW (zcq k) j = 1 := by
 have h := usesL_cases (fun l _ => decOk22 l = true) (by
   refine ⟨?_,?_,?_,?_,?_,?_,?_,?_,?_,?_,?_,?_,fun _ => rfl⟩ <;> decide +kernel) k
 intro j hj
 unfold decOk22 at h
 have := List.all_eq_true.1 h j (List.mem_range.2 hj)
 simp only [Bool.and_eq_true,beq_iff_eq] at this
 exact this
def letOk22 (l : List UInt8) (k : Int) : Prop := ∀ x ∈ l,(x = 116 ∨ x = 103 ∨ x = 107 ∨ x = 99 ∨ x = 102 ∨ x = 105 ∨ x = 112 ∨ x = 111 ∨ x = 109 ∨ x = 119 ∨ x = 110) ∨ (x = 98 ∧ k = 3)
theorem uses_let (k : Int) : letOk22 (zcq k) k := by
 refine usesL_cases letOk22 ?_ k
 refine ⟨?_,?_,?_,?_,?_,?_,?_,?_,?_,?_,?_,?_,fun _ x hx => by simp at hx⟩ <;> (unfold letOk22; decide)
theorem uses_len (k : Int) : (zcq k).length ≤ 6 := by
 refine usesL_cases (fun l _ => l.length ≤ 6) ?_ k
 refine ⟨?_,?_,?_,?_,?_,?_,?_,?_,?_,?_,?_,?_,fun _ => ?_⟩ <;> decide
theorem piece_ok {k : Int} {t : List UInt8} {i p : Int} {c f : Bool} {o m w : Int} {g mb : List UInt8} {n b1 b2 b3 b4 b5 : Int} {rs : List Rec} (h : chkQ k t i p c f o m w g mb n b1 b2 b3 b4 b5 rs = 0) {x : UInt8} (hx : x ∈ zcq k) : zeg (x.toNat : Int) b1 b2 b3 b4 b5 rs = 0 := by
 obtain ⟨-,-,-,hb⟩ := chkQ_ok rs h
 rcases uses_let k x hx with h1 | ⟨rfl,rfl⟩
 · unfold zeg
   rw [if_pos]
   rcases h1 with rfl | rfl | rfl | rfl | rfl | rfl | rfl | rfl | rfl | rfl | rfl <;> decide
 · obtain ⟨h2,rfl⟩ := hb rfl
   unfold zeg
   rw [if_neg (by decide)]
   exact h2
set_option maxHeartbeats 8000000 in
theorem piece_len (x : Int) (t : List UInt8) (i p : Int) (c f : Bool) (o m w : Int) (g mb : List UInt8) (n b1 b2 b3 b4 b5 : Int) (rs : List Rec) (ht : lenQ t g mb) (hi : intQ i p o m w n) : (zbz x t i p c f o m w g mb n b1 b2 b3 b4 b5 rs).length ≤ 1000010 := by
 obtain ⟨q1,q2,q3⟩ := ht
 obtain ⟨i1,i2,i3,i4,i5,i6⟩ := hi
 have h1 := zav t q1
 have h2 := zav g q2
 have h3 := zav mb q3
 have h4 := zfs b1 b2 b3 b4 b5 rs
 have h5 := zav (batB b1 b2 b3 b4 b5 rs) (by omega)
 have j1 := zcf i i1
 have j2 := zcf p i2
 have j3 := zcf o i3
 have j4 := zcf m i4
 have j5 := zcf w i5
 have j6 := zcf n i6
 have k1 : ([UInt8.ofNat (bitN c).toNat]).length ≤ 1000010 := by simp
 have k2 : ([UInt8.ofNat (bitN f).toNat]).length ≤ 1000010 := by simp
 clear i1 i2 i3 i4 i5 i6
 unfold zbz
 generalize zaw t = A1 at *
 generalize zaw g = A2 at *
 generalize zaw mb = A3 at *
 generalize zaw (batB b1 b2 b3 b4 b5 rs) = A4 at *
 generalize pq i = B1 at *
 generalize pq p = B2 at *
 generalize pq o = B3 at *
 generalize pq m = B4 at *
 generalize pq w = B5 at *
 generalize pq n = B6 at *
 repeat' split
 all_goals first | exact k1 | exact k2 | omega
theorem flat_le22 (F : UInt8 → List UInt8) (B : Nat) (h : ∀ x,(F x).length ≤ B) : ∀ l : List UInt8,(l.flatMap F).length ≤ B * l.length
 | [] => by simp
 | x :: r => by
   have h1 := h x
   have h2 := flat_le22 F B h r
   rw [List.flatMap_cons,List.length_append,List.length_cons,Nat.mul_add]; omega
section
set_option maxRecDepth 100000
set_option maxHeartbeats 8000000 in
theorem putQ_sound : zaq Try.prog 22 putQS := by
 refine zbp (S := SputQ) (T := ty) zau ty_ok SputQ_ok Try.func22 (c := Try.f22.body.getD .skip) (by kernel_rfl) (by kernel_rfl) (fun xs pins hp _ => ?_)
 unfold putQS at hp ⊢
 split at hp
 · rename_i k t i p c f o m w g mb n b1 b2 b3 b4 b5 xs fl _
   obtain ⟨hk0,hk1,hq,hr,h40,rs,rfl⟩ := hp
   rw [zag]
   refine ⟨by simp,?_⟩
   have hL : (rs.map rv).length ≤ 9223372036854775807 := by omega
   have hmr := zag rs
   have hex : ∃ qs : List Rec,rs.map rv = qs.map rv := ⟨rs,rfl⟩
   have tk : ∀ l : List UInt8,List.take l.length l = l := fun l => List.take_length
   by_cases hc : chkQ k t i p c f o m w g mb n b1 b2 b3 b4 b5 rs = 0
   · have hB : putQ k t i p c f o m w g mb n b1 b2 b3 b4 b5 rs = layQ k t i p c f o m w g mb n b1 b2 b3 b4 b5 rs := if_pos hc
     rw [hB,hc]
     have hdec := uses_dec k
     have hul := uses_len k
     have hpe : ∀ x ∈ zcq k,zeg (x.toNat : Int) b1 b2 b3 b4 b5 rs = 0 := fun x hx => piece_ok hc hx
     have hLay : layQ k t i p c f o m w g mb n b1 b2 b3 b4 b5 rs = UInt8.ofNat k.toNat :: (zcq k).flatMap fun x => zbz (x.toNat : Int) t i p c f o m w g mb n b1 b2 b3 b4 b5 rs := rfl
     obtain ⟨F,hF⟩ : ∃ F : UInt8 → List UInt8,(fun x : UInt8 => zbz (x.toNat : Int) t i p c f o m w g mb n b1 b2 b3 b4 b5 rs) = F := ⟨_,rfl⟩
     have hFx : ∀ x : UInt8,zbz (x.toNat : Int) t i p c f o m w g mb n b1 b2 b3 b4 b5 rs = F x := fun x => congrFun hF x
     have hFl : ∀ x,(F x).length ≤ 1000010 := fun x => by rw [← hFx x]; exact piece_len _ t i p c f o m w g mb n b1 b2 b3 b4 b5 rs hq hr
     rw [hF] at hLay
     rw [hLay]
     obtain ⟨L,hLL⟩ : ∃ L,zcq k = L := ⟨_,rfl⟩
     rw [hLL] at hdec hul hpe
     rw [hLL]
     unfold Try.f22
     simp only [go_sem,zaa,Nat.reduceAdd,Nat.reduceSub,Nat.reduceMul,Int.reduceToNat,reduceCtorEq,↓reduceIte,Int.reducePow,Nat.reducePow,Int.reduceMod,Nat.reduceLeDiff,Int.reduceLE,Int.reduceNe,Int.reduceEq,Nat.reduceEqDiff,Nat.reduceLT,Nat.reduceBEq,ty,SputQ,chkQS,usesS,hk0,hk1,hc,hLL,hL,hex,hmr]
     refine zdh ⟨fun mm σ => ∃ j : Nat,mm = L.length - j ∧ j ≤ L.length ∧
       σ = ⟨[.agg [.w (.int .u8 k),.str t,.w (.int .i64 i),.w (.int .i64 p),.w (.bool c),.w (.bool f),.w (.int .i64 o),.w (.int .i64 m),.w (.int .i64 w),.str g,.str mb,.w (.int .i64 n),.w (.int .i64 b1),.w (.int .i64 b2),.w (.int .i64 b3),.w (.int .i64 b4),.w (.int .i64 b5),.sg 6 (rs.map rv) fl],.rf 4 18 0 0,.junk,.junk,.junk,.ms 5 1 0 (UInt8.ofNat k.toNat :: (L.take j).flatMap F).length,.junk,.junk,.junk,.junk,.junk,.junk,.junk,.junk,.junk,.junk,.junk,.junk,.junk,.junk,.junk,.rf 6 1 0 0,.junk,.junk,.junk,.junk,.junk,.junk,.junk,.junk,.junk,.junk,.junk,.junk,.junk,.junk,.junk,.junk],[(4,.g 18 [.agg [.w (.int .u8 k),.str t,.w (.int .i64 i),.w (.int .i64 p),.w (.bool c),.w (.bool f),.w (.int .i64 o),.w (.int .i64 m),.w (.int .i64 w),.str g,.str mb,.w (.int .i64 n),.w (.int .i64 b1),.w (.int .i64 b2),.w (.int .i64 b3),.w (.int .i64 b4),.w (.int .i64 b5),.sg 6 (rs.map rv) fl]]),(5,.b (UInt8.ofNat k.toNat :: (L.take j).flatMap F)),(6,.o (.it L j))],7⟩,?_,?_⟩
     · refine ⟨_,_,zaf [0,1,2,3,4,84,124] rfl rfl rfl ?_ ?_,0,rfl,by omega,rfl⟩
       · simp only [ssT,zai,zaj,setSlot,gOf,AV.ren,renL,Blk.ren,Ax.look,Ax.put,reduceCtorEq,↓reduceIte,Nat.reduceEqDiff,Nat.reduceLT,Nat.reduceAdd,List.length_append,List.length_cons,List.length_nil,Option.some.injEq]; try simp
       · simp only [ssT,zai,zaj,setSlot,gOf,AV.ren,renL,Blk.ren,Ax.look,Ax.put,reduceCtorEq,↓reduceIte,Nat.reduceEqDiff,Nat.reduceLT,Nat.reduceAdd,List.length_append,List.length_cons,List.length_nil,Option.some.injEq]; try simp
     · rintro m' σ ⟨j,rfl,hj,rfl⟩
       have hcl := flat_le22 F 1000010 hFl (L.take j)
       have htl : (L.take j).length = j := by rw [List.length_take]; omega
       rw [htl] at hcl
       by_cases hjl : j < L.length
       · have d1 : decide (j < L.length) = true := decide_eq_true hjl
         obtain ⟨hd1,hd2⟩ := hdec j hjl
         have hx1 : L.getD j 0 = L[j] := by rw [List.getD_eq_getElem?_getD,List.getElem?_eq_getElem hjl]; rfl
         have hE := hpe L[j] (List.getElem_mem hjl)
         have hP := hFx L[j]
         have hn := hFl L[j]
         have htake : (L.take (j + 1)).flatMap F = (L.take j).flatMap F ++ F L[j] := by
           rw [List.take_succ_eq_append_getElem hjl,List.flatMap_append]; simp
         rw [hx1] at hd1
         obtain ⟨x,hx⟩ : ∃ x,L[j] = x := ⟨_,rfl⟩
         rw [hx] at hd1 hE hP hn htake
         obtain ⟨Z,hZ⟩ : ∃ Z,(L.take j).flatMap F = Z := ⟨_,rfl⟩
         rw [hZ] at hcl htake ⊢
         obtain ⟨Y,hY⟩ : ∃ Y,F x = Y := ⟨_,rfl⟩
         rw [hY] at hP hn htake
         simp only [go_sem,zaa,Nat.reduceAdd,Nat.reduceSub,Nat.reduceMul,Int.reduceToNat,reduceCtorEq,↓reduceIte,Int.reducePow,Nat.reducePow,Int.reduceMod,Nat.reduceLeDiff,Int.reduceLE,Int.reduceNe,Int.reduceEq,Nat.reduceEqDiff,Nat.reduceLT,Nat.reduceBEq,ty,SputQ,fieldS,d1,hd1,hd2,hE,hP,hq,hr,hL,hex,hmr,tk]
         repeat (refine And.intro (by first | decide | (unfold top; omega) | omega) ?_)
         refine ⟨L.length - (j + 1),_,by omega,zaf [0,1,2,3,4,135,6] rfl rfl rfl ?_ ?_,j + 1,rfl,by omega,rfl⟩
         · simp only [ssT,zai,zaj,setSlot,gOf,AV.ren,renL,Blk.ren,Ax.look,Ax.put,reduceCtorEq,↓reduceIte,Nat.reduceEqDiff,Nat.reduceLT,Nat.reduceAdd,List.length_append,List.length_cons,List.length_nil,Option.some.injEq,htake]; try simp
           exact Nat.add_right_comm _ _ _
         · simp only [ssT,zai,zaj,setSlot,gOf,AV.ren,renL,Blk.ren,Ax.look,Ax.put,reduceCtorEq,↓reduceIte,Nat.reduceEqDiff,Nat.reduceLT,Nat.reduceAdd,List.length_append,List.length_cons,List.length_nil,Option.some.injEq,htake]; try simp
       · obtain rfl : j = L.length := by omega
         have d1 : decide (L.length < L.length) = false := decide_eq_false (by omega)
         rw [List.take_length] at hcl ⊢
         simp only [go_sem,zaa,Nat.reduceAdd,Nat.reduceSub,Nat.reduceMul,Int.reduceToNat,reduceCtorEq,↓reduceIte,Int.reducePow,Nat.reducePow,Int.reduceMod,Nat.reduceLeDiff,Int.reduceLE,Int.reduceNe,Int.reduceEq,Nat.reduceEqDiff,Nat.reduceLT,Nat.reduceBEq,ty,SputQ,d1]
         refine ⟨_,Weak.refl _,?_⟩
         simp only [go_sem,zaa,Nat.reduceAdd,Nat.reduceSub,Nat.reduceMul,Int.reduceToNat,reduceCtorEq,↓reduceIte,Int.reducePow,Nat.reducePow,Int.reduceMod,Nat.reduceLeDiff,Int.reduceLE,Int.reduceNe,Int.reduceEq,Nat.reduceEqDiff,Nat.reduceLT,Nat.reduceBEq,ty,SputQ]
         exact zas 2 3 (by decide) rfl rfl rfl rfl rfl rfl
   · have hB : putQ k t i p c f o m w g mb n b1 b2 b3 b4 b5 rs = [] := if_neg hc
     have d1 := decide_eq_false hc
     unfold Try.f22
     simp only [go_sem,zaa,Nat.reduceAdd,Nat.reduceSub,Nat.reduceMul,Int.reduceToNat,reduceCtorEq,↓reduceIte,Int.reducePow,Nat.reducePow,Int.reduceMod,Nat.reduceLeDiff,Int.reduceLE,Int.reduceNe,Int.reduceEq,Nat.reduceEqDiff,Nat.reduceLT,Nat.reduceBEq,ty,SputQ,chkQS,hk0,hk1,hL,hex,hmr,d1]
     exact zat 2 3 (by decide) rfl rfl hB rfl
 · exact hp.elim
end
end Go.Proofs.Ytihbcgbmlecpbaa
namespace Go.Proofs.Ytihbcgbmlecpbaa
open Ax
def takeQ (x : Int) (bs : List UInt8) (e : Int) : List UInt8 × Int :=
 if x = 116 ∨ x = 103 ∨ x = 107 then (rtL 255 bs e,rtE 255 bs e) else if x = 99 ∨ x = 102 then (rfixL 1 bs e,rfixE 1 bs e) else if x = 98 then (rtL 8192 bs e,rtE 8192 bs e) else (numL bs e,numE bs e)
def takeA (x : Int) (bs : List UInt8) (e : Int) (k : Int) (t : List UInt8) (i p : Int) (c f : Bool) (o m w : Int) (g mb : List UInt8) (n b1 b2 b3 b4 b5 : Int) (xs : List AV) (fl : Bool) : AV :=
 .agg [.w (.int .u8 k),.str (if x = 116 then rtS' 255 bs e else t),.w (.int .i64 (if x = 105 then numN bs e else i)),.w (.int .i64 (if x = 112 then numN bs e else p)),.w (.bool (if x = 99 then decide (zci 1 bs e = 1) else c)),.w (.bool (if x = 102 then decide (zci 1 bs e = 1) else f)),.w (.int .i64 (if x = 111 then numN bs e else o)),.w (.int .i64 (if x = 109 then numN bs e else m)),.w (.int .i64 (if x = 119 then numN bs e else w)),.str (if x = 103 then rtS' 255 bs e else g),.str (if x = 107 then rtS' 255 bs e else mb),.w (.int .i64 (if x = 110 then numN bs e else n)),.w (.int .i64 (if x = 98 then (zbk (rtS' 8192 bs e)).b else b1)),.w (.int .i64 (if x = 98 then (zbk (rtS' 8192 bs e)).c else b2)),.w (.int .i64 (if x = 98 then (zbk (rtS' 8192 bs e)).p else b3)),.w (.int .i64 (if x = 98 then (zbk (rtS' 8192 bs e)).e else b4)),.w (.int .i64 (if x = 98 then (zbk (rtS' 8192 bs e)).s else b5)),.sg 6 (if x = 98 then (zbk (rtS' 8192 bs e)).rs.map rv else xs) (if x = 98 then emp (zbk (rtS' 8192 bs e)).rs else fl)]
def ltr22 (x : Int) : Prop := x = 116 ∨ x = 105 ∨ x = 112 ∨ x = 99 ∨ x = 102 ∨ x = 111 ∨ x = 109 ∨ x = 119 ∨ x = 103 ∨ x = 107 ∨ x = 110 ∨ x = 98
instance (x : Int) : Decidable (ltr22 x) := by unfold ltr22; infer_instance
def takeS22 : zak
 | [.rf 0 18 0 0,.w (.int .i32 x),.rf 1 2 0 0],[.g 18 [.agg [.w (.int .u8 k),.str t,.w (.int .i64 i),.w (.int .i64 p),.w (.bool c),.w (.bool f),.w (.int .i64 o),.w (.int .i64 m),.w (.int .i64 w),.str g,.str mb,.w (.int .i64 n),.w (.int .i64 b1),.w (.int .i64 b2),.w (.int .i64 b3),.w (.int .i64 b4),.w (.int .i64 b5),.sg 6 xs fl]],.g 2 [.agg [.sb bs fb,.w (.int .i64 e)]]] => ⟨ltr22 x ∧ bs.length ≤ 1000000 ∧ ∃ rs : List Rec,xs = rs.map rv,.tup [],[.g 18 [takeA x bs e k t i p c f o m w g mb n b1 b2 b3 b4 b5 xs fl],rd (takeQ x bs e).1 fb (takeQ x bs e).2]⟩
 | _,_ => zbd
def Stake22 (f : FuncId) : Option zak :=
 match f with
 | 35 => some zcx
 | 34 => some numS
 | 40 => some zbo
 | 78 => some bgetS
 | _ => none
theorem Stake22_ok : Fns Try.prog Stake22 := by
 intro f s h
 unfold Stake22 at h
 split at h
 · injection h with h; subst h; exact ⟨⟨_,Try.func35,by kernel_rfl,by kernel_rfl⟩,mfixed_sound⟩
 · injection h with h; subst h; exact ⟨⟨_,Try.func34,by kernel_rfl,by kernel_rfl⟩,num_sound⟩
 · injection h with h; subst h; exact ⟨⟨_,Try.func40,by kernel_rfl,by kernel_rfl⟩,mtext_sound⟩
 · injection h with h; subst h; exact ⟨⟨_,Try.func78,by kernel_rfl,by kernel_rfl⟩,bget_sound⟩
 · cases h
def take22Pl : XPlan := fun id => match id with
 | 0 => .opn [] 2
 | 3 => .opn [] 2
 | 6 => .opn [] 2
 | _ => .std
theorem tkS_len22 (m : Int) (bs : List UInt8) (e : Int) : (rtS' m bs e).length ≤ bs.length := by
 unfold rtS'; split
 · refine Nat.le_trans ?_ (zbm bs e)
   unfold tkB; split
   · simp
   · rw [List.length_take]; omega
 · simp
section
set_option maxRecDepth 100000
set_option maxHeartbeats 8000000 in
theorem take22_sound : zaq Try.prog 55 takeS22 := by
 refine zbx (S := Stake22) (SO := zch) (T := ty) zau ty_ok Stake22_ok Ojust22_ok Try.func55 (c := Try.f55.body.getD .skip) (by kernel_rfl) (fun xs pins hp _ => ?_)
 unfold takeS22 at hp ⊢
 split at hp
 · rename_i x k t i p c f o m w g mb n b1 b2 b3 b4 b5 xs fl bs fb e _
   obtain ⟨hx,hb,rs,rfl⟩ := hp
   have hmr := zag rs
   have hcl := zbi rs
   have tk : ∀ l : List UInt8,List.take l.length l = l := fun l => List.take_length
   have hS : (rtS' 8192 bs e).length ≤ 1000000 := by have := tkS_len22 8192 bs e; omega
   refine ⟨by simp,take22Pl,by kernel_rfl,?_⟩
   unfold Try.f55
   rcases hx with rfl | rfl | rfl | rfl | rfl | rfl | rfl | rfl | rfl | rfl | rfl | rfl
   all_goals
     simp only [go_sem,zab,Nat.reduceAdd,Nat.reduceSub,Nat.reduceMul,Int.reduceToNat,reduceCtorEq,↓reduceIte,Int.reducePow,Nat.reducePow,Int.reduceMod,Nat.reduceLeDiff,Int.reduceLE,Int.reduceNe,Int.reduceEq,Nat.reduceEqDiff,Nat.reduceLT,Nat.reduceBEq,List.map_cons,List.map_nil,List.toList_toArray,Array.toList_append,Option.toArray_some,Option.toArray_none,Bool.and_self,ty,Stake22,zch,take22Pl,textO,yesO,numbO,textF,yesF,zfh,zdq,zcx,numS,zbo,bgetS,bav,rd,hb,hS,tk,hcl,Int.reduceEq,Nat.reduceEqDiff,or_self,or_false,false_or,or_true,true_or,if_true,if_false]
     try (repeat (refine And.intro (by first | omega | decide) ?_))
     refine ⟨_,Weak.refl _,?_⟩
     simp only [go_sem,zab,Nat.reduceAdd,Nat.reduceSub,Nat.reduceMul,Int.reduceToNat,reduceCtorEq,↓reduceIte,Int.reducePow,Nat.reducePow,Int.reduceMod,Nat.reduceLeDiff,Int.reduceLE,Int.reduceNe,Int.reduceEq,Nat.reduceEqDiff,Nat.reduceLT,Nat.reduceBEq,List.map_cons,List.map_nil,List.toList_toArray,Array.toList_append,Option.toArray_some,Option.toArray_none,Bool.and_self,ty,takeA,takeQ,rd,hcl,Int.reduceEq,Nat.reduceEqDiff,or_self,or_false,false_or,or_true,true_or,if_true,if_false]
 · exact hp.elim
end
end Go.Proofs.Ytihbcgbmlecpbaa
namespace Go.Proofs.Ytihbcgbmlecpbaa
open Ax
theorem fix1_cons (c : UInt8) (r : List UInt8) : zci 1 (c :: r) 0 = c.toNat ∧ rfixL 1 (c :: r) 0 = r ∧ rfixE 1 (c :: r) 0 = 0 := by
 have h1 : zfd 1 = 1 := by decide
 have h2 : ¬ (((c :: r).length : Int) < 1) := by simp; omega
 refine ⟨?_,?_,?_⟩
 · unfold zci tkB
   rw [if_pos rfl,h1,if_neg h2]
   simp [zcc,unfL]
 · unfold rfixL tkL
   rw [if_pos rfl,h1,if_neg h2]
   simp
 · unfold rfixE tkE
   rw [if_pos rfl,h1,if_neg h2]
theorem zey (n : Int) (h1 : -9223372036854775808 ≤ n) (h2 : n ≤ 9223372036854775807) (r : List UInt8) :
   numN (putU (zz n).toNat ++ r) 0 = n ∧ numL (putU (zz n).toNat ++ r) 0 = r ∧ numE (putU (zz n).toNat ++ r) 0 = 0 := by
 have hz := zda n h1 h2
 have hg := getL_put (zz n).toNat (by omega) r
 have hc : (((zz n).toNat : Nat) : Int) = zz n := by omega
 rw [hc,zg_zz] at hg
 unfold numN numL numE
 rw [if_pos rfl,if_pos rfl,if_pos rfl,hg]
 exact ⟨rfl,by simp,rfl⟩
theorem zz_len (n : Nat) : (zz (n : Int)).toNat = 2 * n := by unfold zz; rw [if_pos (by omega)]; omega
theorem text_put (m : Int) (s r : List UInt8) (hm : (s.length : Int) ≤ m) (hs : s.length ≤ 1000000) :
   rtS' m (zaw s ++ r) 0 = s ∧ rtL m (zaw s ++ r) 0 = r ∧ rtE m (zaw s ++ r) 0 = 0 := by
 obtain ⟨h1,h2,h3⟩ := zey (s.length : Int) (by omega) (by omega) (s ++ r)
 rw [zz_len] at h1 h2 h3
 have e : zaw s ++ r = putU (2 * s.length) ++ (s ++ r) := by unfold zaw; rw [List.append_assoc]
 have hok : rtOk m (zaw s ++ r) 0 := by unfold rtOk; rw [e,h1,h3]; omega
 have hl : ¬ (((s ++ r).length : Int) < (s.length : Int)) := by simp; omega
 unfold rtS' rtL rtE
 rw [if_pos hok,if_pos hok,if_pos hok,e,h1,h2,h3]
 unfold tkB tkL tkE
 rw [if_neg hl,if_neg hl,if_neg hl]
 simp
theorem flag_toNat (k dd : Bool) : (UInt8.ofNat (flagI k dd).toNat).toNat = (flagI k dd).toNat := by
 cases k <;> cases dd <;> rfl
theorem g_head (d t : Int) (hd : 0 ≤ d ∧ d ≤ 31) (ht : 0 ≤ t ∧ t ≤ 1099511627776) (k dd : Bool) (r bs : List UInt8) (hbs : bs = UInt8.ofNat (flagI k dd).toNat :: (putU (zz d).toNat ++ (putU (zz t).toNat ++ r))) :
   g0 bs 0 = (flagI k dd).toNat ∧ gk bs 0 = k ∧ gdd bs 0 = dd ∧ gd bs 0 = d ∧ gt bs 0 = t ∧ gb3 bs 0 = r ∧ ge3 bs 0 = 0 := by
 subst hbs
 obtain ⟨a1,a2,a3⟩ := fix1_cons (UInt8.ofNat (flagI k dd).toNat) (putU (zz d).toNat ++ (putU (zz t).toNat ++ r))
 obtain ⟨b1,b2,b3⟩ := zey d (by omega) (by omega) (putU (zz t).toNat ++ r)
 obtain ⟨c1,c2,c3⟩ := zey t (by omega) (by omega) r
 generalize hB : UInt8.ofNat (flagI k dd).toNat :: (putU (zz d).toNat ++ (putU (zz t).toNat ++ r)) = B at *
 have h0 : g0 B 0 = (flagI k dd).toNat := by unfold g0; rw [a1,flag_toNat,Int.toNat_natCast]
 have hb1 : gb1 B 0 = putU (zz d).toNat ++ (putU (zz t).toNat ++ r) := a2
 have he1 : ge1 B 0 = 0 := a3
 have hb2 : gb2 B 0 = putU (zz t).toNat ++ r := by unfold gb2; rw [hb1,he1,b2]
 have he2 : ge2 B 0 = 0 := by unfold ge2; rw [hb1,he1,b3]
 refine ⟨h0,?_,?_,by unfold gd; rw [hb1,he1,b1],by unfold gt; rw [hb2,he2,c1],by unfold gb3; rw [hb2,he2,c2],by unfold ge3; rw [hb2,he2,c3]⟩
 · unfold gk; rw [h0]; cases k <;> cases dd <;> rfl
 · unfold gdd; rw [h0]; cases k <;> cases dd <;> rfl
theorem rchk_zero {d t : Int} {k : Bool} {key : List UInt8} {dd : Bool} {val : List UInt8} (h : rchk d t k key dd val = 0) :
   (0 ≤ d ∧ d ≤ 31) ∧ (0 ≤ t ∧ t ≤ 1099511627776) ∧ key.length ≤ 64 ∧ val.length ≤ 512 ∧ (k = false → key = [] ∧ dd = false) ∧ (dd = true → val = []) := by
 rcases zfn d t k key dd val with ⟨e,_⟩ | ⟨e,_⟩ | ⟨e,_⟩ | ⟨_,h1,h2,h3⟩
 · omega
 · omega
 · omega
 · unfold rA at h1
   unfold rB at h2
   unfold rC at h3
   refine ⟨by omega,by omega,by omega,by omega,fun hk => ?_,fun hd => ?_⟩
   · refine ⟨?_,?_⟩
     · apply Classical.byContradiction; intro hne; exact h3 (.inl ⟨hk,.inl hne⟩)
     · cases dd with
       | false => rfl
       | true => exact (h3 (.inl ⟨hk,.inr rfl⟩)).elim
   · apply Classical.byContradiction; intro hne; exact h3 (.inr ⟨hd,hne⟩)
theorem get_put (d t : Int) (k : Bool) (key : List UInt8) (dd : Bool) (val : List UInt8) (z : List UInt8) (h : rchk d t k key dd val = 0) :
   gerr (recL d t k key dd val ++ z) 0 = 0 ∧ grec (recL d t k key dd val ++ z) 0 = recV d t k key dd val ∧ gb5 (recL d t k key dd val ++ z) 0 = z ∧ ge5 (recL d t k key dd val ++ z) 0 = 0 := by
 obtain ⟨h1,h2,h3,h4,h5,h6⟩ := rchk_zero h
 obtain ⟨B,hB⟩ : ∃ B,recL d t k key dd val ++ z = B := ⟨_,rfl⟩
 have hform : B = UInt8.ofNat (flagI k dd).toNat :: (putU (zz d).toNat ++ (putU (zz t).toNat ++ ((if k then zaw key else []) ++ ((if dd then [] else zaw val) ++ z)))) := by
   rw [← hB]; unfold recL; simp
 obtain ⟨q0,q1,q2,q3,q4,q5,q6⟩ := g_head d t h1 h2 k dd _ B hform
 rw [hB]
 have r4 : gkey B 0 = key ∧ gb4 B 0 = (if dd then [] else zaw val) ++ z ∧ ge4 B 0 = 0 := by
   unfold gkey gb4 ge4
   rw [q1,q5,q6]
   cases k with
   | true =>
     obtain ⟨t1,t2,t3⟩ := text_put 64 key ((if dd then [] else zaw val) ++ z) (by omega) (by omega)
     exact ⟨t1,t2,t3⟩
   | false => exact ⟨(h5 rfl).1.symm,rfl,rfl⟩
 obtain ⟨r1,r2,r3⟩ := r4
 have r5 : gval B 0 = val ∧ gb5 B 0 = z ∧ ge5 B 0 = 0 := by
   unfold gval gb5 ge5
   rw [q2,r2,r3]
   cases dd with
   | false =>
     obtain ⟨t1,t2,t3⟩ := text_put 512 val z (by omega) (by omega)
     exact ⟨t1,t2,t3⟩
   | true => exact ⟨(h6 rfl).symm,rfl,rfl⟩
 obtain ⟨s1,s2,s3⟩ := r5
 have hf : ¬ 4 ≤ (flagI k dd).toNat := by cases k <;> cases dd <;> decide
 have he : gerr B 0 = 0 := by
   unfold gerr
   rw [s3,if_neg (by simp),q0,q1,q2,q3,q4,r1,s1,h,if_neg]
   rintro (h | h)
   · exact hf h
   · exact h rfl
 refine ⟨he,?_,s2,s3⟩
 unfold grec
 rw [if_pos he,q1,q2,q3,q4,r1,s1]
end Go.Proofs.Ytihbcgbmlecpbaa
namespace Go.Proofs.Ytihbcgbmlecpbaa
open Ax
theorem rrec_rv (r : Rec) : rrec (rv r) = r := rfl
theorem rv_inj {a b : Rec} (h : rv a = rv b) : a = b := by rw [← rrec_rv a,← rrec_rv b,h]
theorem rb_eq {r : Rec} (h : rk r = 0) : rb r = recL r.d r.t r.k r.key r.dd r.val := if_pos h
theorem gR_put {r : Rec} (h : rk r = 0) (z : List UInt8) : gerr (rb r ++ z) 0 = 0 ∧ gR (rb r ++ z) 0 = r ∧ gb5 (rb r ++ z) 0 = z ∧ ge5 (rb r ++ z) 0 = 0 := by
 obtain ⟨h1,h2,h3,h4⟩ := get_put r.d r.t r.k r.key r.dd r.val z h
 rw [rb_eq h]
 refine ⟨h1,?_,h3,h4⟩
 rw [grec_rv h1] at h2
 exact rv_inj h2
theorem layE_zero {c : Int} : ∀ {a : Int} {rs : List Rec},layE c a rs = 0 → (∀ r ∈ rs,rk r = 0) ∧ (∀ r ∈ rs,a < r.d ∧ r.d < c) ∧ rs.Pairwise (fun x y => x.d < y.d)
 | a,[],_ => ⟨by simp,by simp,List.Pairwise.nil⟩
 | a,r :: rs,h => by
   rw [layE_cons] at h
   by_cases h1 : rk r = 0
   · rw [if_pos h1] at h
     by_cases h2 : r.d ≤ a ∨ c ≤ r.d
     · rw [if_pos h2] at h; omega
     · rw [if_neg h2] at h
       obtain ⟨i1,i2,i3⟩ := layE_zero h
       refine ⟨?_,?_,List.pairwise_cons.2 ⟨fun q hq => (i2 q hq).1,i3⟩⟩
       · intro q hq
         rcases List.mem_cons.1 hq with rfl | hq
         · exact h1
         · exact i1 q hq
       · intro q hq
         rcases List.mem_cons.1 hq with rfl | hq
         · omega
         · have := i2 q hq; omega
   · rw [if_neg h1] at h; exact absurd h h1
theorem readN_put : ∀ (rs : List Rec) (z : List UInt8),(∀ r ∈ rs,rk r = 0) → readN rs.length (rs.flatMap rb ++ z) 0 = some (rs,z,0)
 | [],z,_ => rfl
 | r :: rs,z,h => by
   obtain ⟨h1,h2,h3,h4⟩ := gR_put (h r (by simp)) (rs.flatMap rb ++ z)
   rw [List.length_cons,List.flatMap_cons,List.append_assoc,readN_succ,if_pos h1,h2,h3,h4,readN_put rs z (fun q hq => h q (by simp [hq]))]
   rfl
theorem bE_zero {x : Bat} (h : bE x = 0) : bfld x.b x.c x.p x.e x.s x.rs.length = 0 ∧ layE x.c (-1) x.rs = 0 ∧ (batL x.b x.c x.p x.e x.s x.rs).length ≤ 8192 := by
 unfold bE batE at h
 split at h
 · rename_i h1
   split at h
   · rename_i h2
     split at h
     · omega
     · exact ⟨h1,h2,by omega⟩
   · rename_i h2; exact absurd h h2
 · rename_i h1; exact absurd h h1
theorem bB_eq {x : Bat} (h : bE x = 0) : bB x = zdr (nums x.b x.c x.p x.e x.s x.rs.length) ++ x.rs.flatMap rb := if_pos h
theorem bheads {x : Bat} (h : bE x = 0) (z : List UInt8) : hn 0 (bB x ++ z) = x.b ∧ hn 1 (bB x ++ z) = x.c ∧ hn 2 (bB x ++ z) = x.p ∧ hn 3 (bB x ++ z) = x.e ∧ hn 4 (bB x ++ z) = x.s ∧ hn 5 (bB x ++ z) = x.rs.length ∧ hb 6 (bB x ++ z) = (x.rs.flatMap rb ++ z,0) ∧ x.rs.length ≤ 32 ∧ ∀ r ∈ x.rs,rk r = 0 := by
 obtain ⟨h1,h2,h3⟩ := bE_zero h
 have hz := bfld_zero h1
 obtain ⟨i1,i2,i3⟩ := layE_zero h2
 obtain ⟨T,hT⟩ : ∃ T,x.rs.flatMap rb ++ z = T := ⟨_,rfl⟩
 obtain ⟨X5,hX5⟩ : ∃ X,putU (zz x.rs.length).toNat ++ T = X := ⟨_,rfl⟩
 obtain ⟨X4,hX4⟩ : ∃ X,putU (zz x.s).toNat ++ X5 = X := ⟨_,rfl⟩
 obtain ⟨X3,hX3⟩ : ∃ X,putU (zz x.e).toNat ++ X4 = X := ⟨_,rfl⟩
 obtain ⟨X2,hX2⟩ : ∃ X,putU (zz x.p).toNat ++ X3 = X := ⟨_,rfl⟩
 obtain ⟨X1,hX1⟩ : ∃ X,putU (zz x.c).toNat ++ X2 = X := ⟨_,rfl⟩
 have hW : bB x ++ z = putU (zz x.b).toNat ++ X1 := by
   rw [bB_eq h,← hX1,← hX2,← hX3,← hX4,← hX5,← hT]
   simp only [zdr,nums,List.flatMap_cons,List.flatMap_nil,List.append_assoc,List.append_nil]
 obtain ⟨a1,a2,a3⟩ := zey x.b (by omega) (by omega) X1
 obtain ⟨b1,b2,b3⟩ := zey x.c (by omega) (by omega) X2
 obtain ⟨c1,c2,c3⟩ := zey x.p (by omega) (by omega) X3
 obtain ⟨d1,d2,d3⟩ := zey x.e (by omega) (by omega) X4
 obtain ⟨e1,e2,e3⟩ := zey x.s (by omega) (by omega) X5
 obtain ⟨f1,f2,f3⟩ := zey x.rs.length (by omega) (by omega) T
 rw [← hW] at a1 a2 a3
 rw [hX1] at b1 b2 b3
 rw [hX2] at c1 c2 c3
 rw [hX3] at d1 d2 d3
 rw [hX4] at e1 e2 e3
 rw [hX5] at f1 f2 f3
 have hx : ∃ W,bB x ++ z = W ∧ bB x ++ z = W := ⟨_,rfl,rfl⟩
 obtain ⟨W,hW1,hW2⟩ := hx
 rw [hW1] at a1 a2 a3 ⊢
 have B1 : hb 1 W = (X1,0) := Prod.ext a2 a3
 have N0 : hn 0 W = x.b := a1
 have N1 : hn 1 W = x.c := by unfold hn; rw [B1]; exact b1
 have B2 : hb 2 W = (X2,0) := by show (numL (hb 1 W).1 (hb 1 W).2,numE (hb 1 W).1 (hb 1 W).2) = _; rw [B1]; exact Prod.ext b2 b3
 have N2 : hn 2 W = x.p := by unfold hn; rw [B2]; exact c1
 have B3 : hb 3 W = (X3,0) := by show (numL (hb 2 W).1 (hb 2 W).2,numE (hb 2 W).1 (hb 2 W).2) = _; rw [B2]; exact Prod.ext c2 c3
 have N3 : hn 3 W = x.e := by unfold hn; rw [B3]; exact d1
 have B4 : hb 4 W = (X4,0) := by show (numL (hb 3 W).1 (hb 3 W).2,numE (hb 3 W).1 (hb 3 W).2) = _; rw [B3]; exact Prod.ext d2 d3
 have N4 : hn 4 W = x.s := by unfold hn; rw [B4]; exact e1
 have B5 : hb 5 W = (X5,0) := by show (numL (hb 4 W).1 (hb 4 W).2,numE (hb 4 W).1 (hb 4 W).2) = _; rw [B4]; exact Prod.ext e2 e3
 have N5 : hn 5 W = x.rs.length := by unfold hn; rw [B5]; exact f1
 have B6 : hb 6 W = (T,0) := by show (numL (hb 5 W).1 (hb 5 W).2,numE (hb 5 W).1 (hb 5 W).2) = _; rw [B5]; exact Prod.ext f2 f3
 exact ⟨N0,N1,N2,N3,N4,N5,by rw [B6,hT],by omega,i1⟩
theorem bget_more {x : Bat} (h : bE x = 0) (z : List UInt8) : bget (bB x ++ z) = if z = [] then some x else none := by
 obtain ⟨N0,N1,N2,N3,N4,N5,B6,hl,i1⟩ := bheads h z
 have hrd := readN_put x.rs z i1
 obtain ⟨W,hW1⟩ : ∃ W,bB x ++ z = W := ⟨_,rfl⟩
 rw [hW1] at N0 N1 N2 N3 N4 N5 B6 ⊢
 unfold bget
 rw [N0,N1,N2,N3,N4,N5,B6,if_pos (by omega),Int.toNat_natCast]
 simp only
 rw [hrd]
 simp only
 have hxe : (⟨x.b,x.c,x.p,x.e,x.s,x.rs⟩ : Bat) = x := rfl
 rw [hxe]
 by_cases hzz : z = []
 · rw [if_pos hzz,if_pos (by refine ⟨?_,hzz,h,by rw [← hW1,hzz,List.append_nil]⟩; first | exact trivial | rfl)]
 · rw [if_neg hzz,if_neg (fun q => hzz q.2.1)]
theorem bget_put {x : Bat} (h : bE x = 0) : bget (bB x) = some x := by
 have := bget_more h []
 rwa [List.append_nil,if_pos rfl] at this
theorem bget_some {bs : List UInt8} {x : Bat} (h : bget bs = some x) : bE x = 0 ∧ bB x = bs := by
 unfold bget at h
 split at h
 · split at h
   · split at h
     · rename_i h3
       injection h with h
       subst h
       exact ⟨h3.2.2.1,h3.2.2.2⟩
     · cases h
   · cases h
 · cases h
theorem bB_length {x : Bat} (h : bE x = 0) : (bB x).length ≤ 8192 := by
 rw [show bB x = batL x.b x.c x.p x.e x.s x.rs from if_pos h]; exact (bE_zero h).2.2
end Go.Proofs.Ytihbcgbmlecpbaa
namespace Go.Proofs.Ytihbcgbmlecpbaa
open Ax
def nxB (B x : Int) (s : List UInt8 × Int) : List UInt8 × Int :=
 if x = 116 ∨ x = 103 ∨ x = 107 then (rtL 255 s.1 s.2,rtE 255 s.1 s.2) else if x = 99 ∨ x = 102 then (rfixL 1 s.1 s.2,rfixE 1 s.1 s.2) else if x = 98 then (rtL B s.1 s.2,rtE B s.1 s.2) else (numL s.1 s.2,numE s.1 s.2)
def tkR (B x : Int) (s : List UInt8 × Int) (q : Rq) : Rq :=
 ⟨q.k,if x = 116 then rtS' 255 s.1 s.2 else q.t,if x = 105 then numN s.1 s.2 else q.i,if x = 112 then numN s.1 s.2 else q.p,if x = 99 then decide (zci 1 s.1 s.2 = 1) else q.c,if x = 102 then decide (zci 1 s.1 s.2 = 1) else q.f,if x = 111 then numN s.1 s.2 else q.o,if x = 109 then numN s.1 s.2 else q.m,if x = 119 then numN s.1 s.2 else q.w,
   if x = 103 then rtS' 255 s.1 s.2 else q.g,if x = 107 then rtS' 255 s.1 s.2 else q.mb,if x = 110 then numN s.1 s.2 else q.n,if x = 98 then zbk (rtS' B s.1 s.2) else q.b⟩
def rdL (B : Int) : List UInt8 → List UInt8 × Int → Rq → Rq × (List UInt8 × Int)
 | [],s,q => (q,s)
 | x :: r,s,q => rdL B r (nxB B (x.toNat : Int) s) (tkR B (x.toNat : Int) s q)
def sq0 (b : List UInt8) : List UInt8 × Int := (rfixL 1 b 0,rfixE 1 b 0)
def kq (b : List UInt8) : Int := zci 1 b 0 % 256
def zRk (k : Int) : Rq := ⟨k,[],0,0,false,false,0,0,0,[],[],0,zB⟩
def rdB (B : Int) (b : List UInt8) : Rq × (List UInt8 × Int) := rdL B (zcq (kq b)) (sq0 b) (zRk (kq b))
def rdR (b : List UInt8) : Rq := (rdB 8192 b).1
def rdS (b : List UInt8) : List UInt8 × Int := (rdB 8192 b).2
def chkR (q : Rq) : Int := chkQ q.k q.t q.i q.p q.c q.f q.o q.m q.w q.g q.mb q.n q.b.b q.b.c q.b.p q.b.e q.b.s q.b.rs
def layR (q : Rq) : List UInt8 := layQ q.k q.t q.i q.p q.c q.f q.o q.m q.w q.g q.mb q.n q.b.b q.b.c q.b.p q.b.e q.b.s q.b.rs
def putR (q : Rq) : List UInt8 := putQ q.k q.t q.i q.p q.c q.f q.o q.m q.w q.g q.mb q.n q.b.b q.b.c q.b.p q.b.e q.b.s q.b.rs
def fitR (q : Rq) : Prop := (0 ≤ q.k ∧ q.k < 256) ∧ lenQ q.t q.g q.mb ∧ intQ q.i q.p q.o q.m q.w q.n ∧ q.b.rs.length ≤ 40
theorem kq_rng (b : List UInt8) : 0 ≤ kq b ∧ kq b < 256 := by unfold kq; omega
theorem rdL_append (B : Int) : ∀ (l m : List UInt8) (s : List UInt8 × Int) (q : Rq),rdL B (l ++ m) s q = rdL B m (rdL B l s q).2 (rdL B l s q).1
 | [],_,_,_ => rfl
 | x :: r,m,s,q => rdL_append B r m (nxB B (x.toNat : Int) s) (tkR B (x.toNat : Int) s q)
theorem rdL_take (B : Int) (l : List UInt8) (s : List UInt8 × Int) (q : Rq) {j : Nat} (h : j < l.length) : rdL B (l.take (j + 1)) s q = (tkR B (l[j].toNat : Int) (rdL B (l.take j) s q).2 (rdL B (l.take j) s q).1,nxB B (l[j].toNat : Int) (rdL B (l.take j) s q).2) := by
 rw [List.take_succ_eq_append_getElem h,rdL_append]; rfl
def setR (x : Int) (q q0 : Rq) : Rq :=
 ⟨q0.k,if x = 116 then q.t else q0.t,if x = 105 then q.i else q0.i,if x = 112 then q.p else q0.p,if x = 99 then q.c else q0.c,if x = 102 then q.f else q0.f,if x = 111 then q.o else q0.o,if x = 109 then q.m else q0.m,if x = 119 then q.w else q0.w,if x = 103 then q.g else q0.g,if x = 107 then q.mb else q0.mb,if x = 110 then q.n else q0.n,if x = 98 then q.b else q0.b⟩
def setL : List UInt8 → Rq → Rq → Rq
 | [],_,q0 => q0
 | x :: r,q,q0 => setL r q (setR (x.toNat : Int) q q0)
def pcR (q : Rq) (x : UInt8) : List UInt8 := zbz (x.toNat : Int) q.t q.i q.p q.c q.f q.o q.m q.w q.g q.mb q.n q.b.b q.b.c q.b.p q.b.e q.b.s q.b.rs
def okX (B : Int) (q : Rq) (x : UInt8) : Prop := ∀ (r : List UInt8) (q0 : Rq),nxB B (x.toNat : Int) (pcR q x ++ r,0) = (r,0) ∧ tkR B (x.toNat : Int) (pcR q x ++ r,0) q0 = setR (x.toNat : Int) q q0
theorem rdL_put (B : Int) (q : Rq) : ∀ (l : List UInt8) (q0 : Rq) (r : List UInt8),(∀ x ∈ l,okX B q x) → rdL B l (l.flatMap (pcR q) ++ r,0) q0 = (setL l q q0,(r,0))
 | [],_,_,_ => rfl
 | x :: l,q0,r,h => by
   have h1 := h x (List.mem_cons_self ..) (l.flatMap (pcR q) ++ r) q0
   rw [List.flatMap_cons,List.append_assoc]
   show rdL B l (nxB B (x.toNat : Int) _) (tkR B (x.toNat : Int) _ q0) = _
   rw [h1.1,h1.2]
   exact rdL_put B q l _ r fun y hy => h y (List.mem_cons_of_mem _ hy)
theorem ok_text (B : Int) (q : Rq) (x : UInt8) (s : List UInt8) (hs : s.length ≤ 255) (hp : pcR q x = zaw s) (hx : (x.toNat : Int) = 116 ∨ (x.toNat : Int) = 103 ∨ (x.toNat : Int) = 107) (r : List UInt8) : nxB B (x.toNat : Int) (pcR q x ++ r,0) = (r,0) ∧ rtS' 255 (pcR q x ++ r) 0 = s := by
 obtain ⟨t1,t2,t3⟩ := text_put 255 s r (by omega) (by omega)
 unfold nxB
 rw [if_pos hx,hp]
 simp only
 rw [t1,t2,t3]; exact ⟨rfl,rfl⟩
theorem ok_num (B : Int) (q : Rq) (x : UInt8) (v : Int) (hv : okI v) (hp : pcR q x = pq v) (hx : ¬ ((x.toNat : Int) = 116 ∨ (x.toNat : Int) = 103 ∨ (x.toNat : Int) = 107) ∧ ¬ ((x.toNat : Int) = 99 ∨ (x.toNat : Int) = 102) ∧ ¬ (x.toNat : Int) = 98) (r : List UInt8) : nxB B (x.toNat : Int) (pcR q x ++ r,0) = (r,0) ∧ numN (pcR q x ++ r) 0 = v := by
 obtain ⟨t1,t2,t3⟩ := zey v hv.1 hv.2 r
 unfold nxB
 rw [if_neg hx.1,if_neg hx.2.1,if_neg hx.2.2,hp]
 unfold pq
 simp only
 rw [t1,t2,t3]; exact ⟨rfl,rfl⟩
theorem ok_bit (B : Int) (q : Rq) (x : UInt8) (v : Bool) (hp : pcR q x = [UInt8.ofNat (bitN v).toNat]) (hx : ¬ ((x.toNat : Int) = 116 ∨ (x.toNat : Int) = 103 ∨ (x.toNat : Int) = 107) ∧ ((x.toNat : Int) = 99 ∨ (x.toNat : Int) = 102)) (r : List UInt8) : nxB B (x.toNat : Int) (pcR q x ++ r,0) = (r,0) ∧ decide (zci 1 (pcR q x ++ r) 0 = 1) = v := by
 obtain ⟨t1,t2,t3⟩ := fix1_cons (UInt8.ofNat (bitN v).toNat) r
 unfold nxB
 rw [if_neg hx.1,if_pos hx.2,hp]
 simp only [List.singleton_append,t1,t2,t3]
 exact ⟨trivial,by cases v <;> decide⟩
theorem ok_batch (B : Int) (hB : 8192 ≤ B) (q : Rq) (h : bE q.b = 0) (r : List UInt8) : nxB B (((98 : UInt8).toNat : Nat) : Int) (pcR q 98 ++ r,0) = (r,0) ∧ zbk (rtS' B (pcR q 98 ++ r) 0) = q.b := by
 have hl := bB_length h
 obtain ⟨t1,t2,t3⟩ := text_put B (bB q.b) r (by omega) (by omega)
 have hp : pcR q 98 = zaw (bB q.b) := rfl
 unfold nxB
 rw [if_neg (by decide),if_neg (by decide),if_pos (by decide),hp]
 simp only
 rw [t1,t2,t3]
 exact ⟨rfl,by unfold zbk; rw [bget_put h]; rfl⟩
theorem ok_let (B : Int) (hB : 8192 ≤ B) (q : Rq) (hl : ¬ zeo q.t q.g q.mb) (hi : intQ q.i q.p q.o q.m q.w q.n) (x : UInt8) (hx : (x = 116 ∨ x = 103 ∨ x = 107 ∨ x = 99 ∨ x = 102 ∨ x = 105 ∨ x = 112 ∨ x = 111 ∨ x = 109 ∨ x = 119 ∨ x = 110) ∨ (x = 98 ∧ bE q.b = 0)) : okX B q x := by
 intro r q0
 obtain ⟨i1,i2,i3,i4,i5,i6⟩ := hi
 unfold zeo at hl
 rcases hx with (rfl | rfl | rfl | rfl | rfl | rfl | rfl | rfl | rfl | rfl | rfl) | ⟨rfl,hb⟩
 · have h := ok_text B q 116 q.t (by omega) rfl (by decide) r
   exact ⟨h.1,by simp only [tkR,setR,h.2]; rfl⟩
 · have h := ok_text B q 103 q.g (by omega) rfl (by decide) r
   exact ⟨h.1,by simp only [tkR,setR,h.2]; rfl⟩
 · have h := ok_text B q 107 q.mb (by omega) rfl (by decide) r
   exact ⟨h.1,by simp only [tkR,setR,h.2]; rfl⟩
 · have h := ok_bit B q 99 q.c rfl (by decide) r
   exact ⟨h.1,by simp only [tkR,setR,h.2]; rfl⟩
 · have h := ok_bit B q 102 q.f rfl (by decide) r
   exact ⟨h.1,by simp only [tkR,setR,h.2]; rfl⟩
 · have h := ok_num B q 105 q.i i1 rfl (by decide) r
   exact ⟨h.1,by simp only [tkR,setR,h.2]; rfl⟩
 · have h := ok_num B q 112 q.p i2 rfl (by decide) r
   exact ⟨h.1,by simp only [tkR,setR,h.2]; rfl⟩
 · have h := ok_num B q 111 q.o i3 rfl (by decide) r
   exact ⟨h.1,by simp only [tkR,setR,h.2]; rfl⟩
 · have h := ok_num B q 109 q.m i4 rfl (by decide) r
   exact ⟨h.1,by simp only [tkR,setR,h.2]; rfl⟩
 · have h := ok_num B q 119 q.w i5 rfl (by decide) r
   exact ⟨h.1,by simp only [tkR,setR,h.2]; rfl⟩
 · have h := ok_num B q 110 q.n i6 rfl (by decide) r
   exact ⟨h.1,by simp only [tkR,setR,h.2]; rfl⟩
 · have h := ok_batch B hB q hb r
   exact ⟨h.1,by simp only [tkR,setR,h.2]; rfl⟩
theorem sq0_put (k : Int) (hk : 0 ≤ k ∧ k < 256) (r : List UInt8) : sq0 (UInt8.ofNat k.toNat :: r) = (r,0) ∧ kq (UInt8.ofNat k.toNat :: r) = k := by
 obtain ⟨h1,h2,h3⟩ := fix1_cons (UInt8.ofNat k.toNat) r
 unfold sq0 kq
 rw [h1,h2,h3]
 have : (UInt8.ofNat k.toNat).toNat = k.toNat := by rw [UInt8.toNat_ofNat']; exact Nat.mod_eq_of_lt (by omega)
 rw [this]
 exact ⟨rfl,by omega⟩
theorem eqQ_eq {k : Int} {t : List UInt8} {i p : Int} {c f : Bool} {o m w : Int} {g mb : List UInt8} {n k' : Int} {t' : List UInt8} {i' p' : Int} {c' f' : Bool} {o' m' w' : Int} {g' mb' : List UInt8} {n' : Int} {B : Bool}
   (h : eqQ k t i p c f o m w g mb n k' t' i' p' c' f' o' m' w' g' mb' n' B = true) : (k = k' ∧ t = t' ∧ i = i' ∧ p = p' ∧ c = c' ∧ f = f' ∧ o = o' ∧ m = m' ∧ w = w' ∧ g = g' ∧ mb = mb' ∧ n = n') ∧ B = true := by
 unfold eqQ at h
 rw [Bool.and_eq_true,decide_eq_true_iff] at h; exact h
theorem bsame4_eq {b c p e s : Int} {rs : List Rec} {b' c' p' e' s' : Int} {qs : List Rec} (h : zbw b c p e s rs b' c' p' e' s' qs = true) : b = b' ∧ c = c' ∧ p = p' ∧ e = e' ∧ s = s' ∧ rs = qs := by
 unfold zbw at h; exact of_decide_eq_true h
theorem set_all (q : Rq) (hk : 0 ≤ q.k ∧ q.k ≤ 11) (hs : zbu q.k q.t q.i q.p q.c q.f q.o q.m q.w q.g q.mb q.n q.b.b q.b.c q.b.p q.b.e q.b.s q.b.rs = true) : setL (zcq q.k) q (zRk q.k) = q := by
 obtain ⟨k,t,i,p,c,f,o,m,w,g,mb,n,b1,b2,b3,b4,b5,rs⟩ := q
 simp only at hk hs
 rcases knd_le k hk with rfl | rfl | rfl | rfl | rfl | rfl | rfl | rfl | rfl | rfl | rfl | rfl
 all_goals
   unfold zbu at hs
   simp only [Int.reduceEq,or_self,or_false,false_or,or_true,true_or,if_true,if_false] at hs
   obtain ⟨⟨-,e1,e2,e3,e4,e5,e6,e7,e8,e9,e10,e11⟩,e12⟩ := eqQ_eq hs
   obtain ⟨c1,c2,c3,c4,c5,c6⟩ := bsame4_eq e12
   try subst e1
   try subst e2
   try subst e3
   try subst e4
   try subst e5
   try subst e6
   try subst e7
   try subst e8
   try subst e9
   try subst e10
   try subst e11
   try subst c1
   try subst c2
   try subst c3
   try subst c4
   try subst c5
   try subst c6
   rfl
theorem rd_lay (B : Int) (hB : 8192 ≤ B) (q : Rq) (h : chkR q = 0) (hf : fitR q) (r : List UInt8) : rdB B (layR q ++ r) = (q,(r,0)) := by
 obtain ⟨hk,hso,hlong,hb⟩ := chkQ_ok _ h
 obtain ⟨⟨hk0,hk1⟩,_,hi,_⟩ := hf
 have hL : layR q ++ r = UInt8.ofNat q.k.toNat :: ((zcq q.k).flatMap (pcR q) ++ r) := rfl
 rw [hL]
 obtain ⟨s0,k0⟩ := sq0_put q.k ⟨hk0,hk1⟩ ((zcq q.k).flatMap (pcR q) ++ r)
 unfold rdB
 rw [k0,s0,rdL_put,set_all q ⟨hk0,hk⟩ hso]
 intro x hx
 refine ok_let B hB q hlong hi x ?_
 rcases uses_let q.k x hx with h1 | ⟨h1,h2⟩
 · exact .inl h1
 · obtain ⟨h3,h4⟩ := hb h2
   exact .inr ⟨h1,by unfold bE; rw [h4]; exact h3⟩
theorem rd_lay22 (q : Rq) (h : chkR q = 0) (hf : fitR q) (r : List UInt8) : rdR (layR q ++ r) = q ∧ rdS (layR q ++ r) = (r,0) := by
 unfold rdR rdS
 rw [rd_lay 8192 (by decide) q h hf r]; exact ⟨rfl,rfl⟩
end Go.Proofs.Ytihbcgbmlecpbaa
