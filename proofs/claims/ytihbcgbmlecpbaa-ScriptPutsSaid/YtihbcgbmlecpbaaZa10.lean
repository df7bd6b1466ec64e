/- What the proofs of this seat stand on; it asks nothing. -/
import Derived.Test.YtihbcgbmlecpbaaZa09
set_option linter.unusedSimpArgs false
set_option linter.unusedVariables false
namespace Go.Proofs.Ytihbcgbmlecpbaa
open Ax
structure Rq where
 k : Int
 t : List UInt8
 i : Int
 p : Int
 c : Bool
 f : Bool
 o : Int
 m : Int
 w : Int
 g : List UInt8
 mb : List UInt8
 n : Int
 b : Bat
def rqA (q : Rq) (fl : Bool) : AV := .agg [.w (.int .u8 q.k),.str q.t,.w (.int .i64 q.i),.w (.int .i64 q.p),.w (.bool q.c),.w (.bool q.f),.w (.int .i64 q.o),.w (.int .i64 q.m),.w (.int .i64 q.w),.str q.g,.str q.mb,.w (.int .i64 q.n),
 .w (.int .i64 q.b.b),.w (.int .i64 q.b.c),.w (.int .i64 q.b.p),.w (.int .i64 q.b.e),.w (.int .i64 q.b.s),.sg 6 (q.b.rs.map rv) fl]
def zB : Bat := ⟨0,0,0,0,0,[]⟩
def zck (k : Int) : List UInt8 :=
 if k = 0 then [116,112,99]
 else if k = 1 then [116]
 else if k = 2 then [116]
 else if k = 3 then [116,105,102,98]
 else if k = 4 then [116,105,111,109]
 else if k = 5 then [116,105,119]
 else if k = 6 then [103,107]
 else if k = 7 then [116,103,107,110]
 else if k = 8 then [103,107,110]
 else if k = 9 then [103,107]
 else if k = 10 then [116,105,111,103,107,110]
 else if k = 11 then [116,105,103]
 else []
def usesS : zah
 | [.w (.int .u8 k)],[] => ⟨True,.str (zck k),[]⟩
 | _,_ => zbc
theorem knd_cases (k : Int) : (k ≠ 0 ∧ k ≠ 1 ∧ k ≠ 2 ∧ k ≠ 3 ∧ k ≠ 4 ∧ k ≠ 5 ∧ k ≠ 6 ∧ k ≠ 7 ∧ k ≠ 8 ∧ k ≠ 9 ∧ k ≠ 10 ∧ k ≠ 11) ∨ k = 0 ∨ k = 1 ∨ k = 2 ∨ k = 3 ∨ k = 4 ∨ k = 5 ∨ k = 6 ∨ k = 7 ∨ k = 8 ∨ k = 9 ∨ k = 10 ∨ k = 11 := by omega
theorem knd_le (k : Int) (h : 0 ≤ k ∧ k ≤ 11) : k = 0 ∨ k = 1 ∨ k = 2 ∨ k = 3 ∨ k = 4 ∨ k = 5 ∨ k = 6 ∨ k = 7 ∨ k = 8 ∨ k = 9 ∨ k = 10 ∨ k = 11 := by omega
def textF (c : Int) : Nat := if c = 116 then 1 else if c = 103 then 9 else if c = 107 then 10 else 0
def yesF (c : Int) : Nat := if c = 99 then 4 else if c = 102 then 5 else 0
def zep (c : Int) : Nat := if c = 105 then 2 else if c = 112 then 3 else if c = 111 then 6 else if c = 109 then 7 else if c = 119 then 8 else if c = 110 then 11 else 0
def zcx (n : Nat) : AV := if n = 0 then .w (.pointer none) else .rf 0 18 0 n
def textO : zah
 | [.rf 0 18 0 0,.w (.int .i32 c)],[.g 18 [x]] => ⟨x.closed = true,zcx (textF c),[.g 18 [x]]⟩
 | _,_ => zbc
def yesO : zah
 | [.rf 0 18 0 0,.w (.int .i32 c)],[.g 18 [x]] => ⟨x.closed = true,zcx (yesF c),[.g 18 [x]]⟩
 | _,_ => zbc
def numbO : zah
 | [.rf 0 18 0 0,.w (.int .i32 c)],[.g 18 [x]] => ⟨x.closed = true,zcx (zep c),[.g 18 [x]]⟩
 | _,_ => zbc
section
set_option maxRecDepth 100000
set_option maxHeartbeats 4000000 in
theorem uses22_sound : zas Try.prog 44 usesS := by
 refine zam (S := noS) (T := ty) zau ty_ok zbm Try.func44 (c := Try.f44.body.getD .skip) (by kernel_rfl) (by kernel_rfl) (fun xs pins hp _ => ?_)
 unfold usesS at hp ⊢
 split at hp
 · rename_i k _
   refine ⟨by simp,?_⟩
   unfold Try.f44
   rcases knd_cases k with ⟨h0,h1,h2,h3,h4,h5,h6,h7,h8,h9,h10,h11⟩ | rfl | rfl | rfl | rfl | rfl | rfl | rfl | rfl | rfl | rfl | rfl | rfl
   · have hu : zck k = [] := by unfold zck; simp only [h0,h1,h2,h3,h4,h5,h6,h7,h8,h9,h10,h11,if_false]
     have d0 := decide_eq_false h0
     have d1 := decide_eq_false h1
     have d2 := decide_eq_false h2
     have d3 := decide_eq_false h3
     have d4 := decide_eq_false h4
     have d5 := decide_eq_false h5
     have d6 := decide_eq_false h6
     have d7 := decide_eq_false h7
     have d8 := decide_eq_false h8
     have d9 := decide_eq_false h9
     have d10 := decide_eq_false h10
     have d11 := decide_eq_false h11
     simp only [go_sem,coe,zaa,Nat.reduceAdd,Nat.reduceSub,Nat.reduceMul,Int.reduceToNat,reduceCtorEq,↓reduceIte,Int.reducePow,Nat.reducePow,Int.reduceMod,Nat.reduceLeDiff,Int.reduceLE,Int.reduceNe,Int.reduceEq,Nat.reduceEqDiff,Nat.reduceLT,Nat.reduceBEq,ty,noS,hu,d0,d1,d2,d3,d4,d5,d6,d7,d8,d9,d10,d11]
   all_goals simp only [go_sem,coe,zaa,Nat.reduceAdd,Nat.reduceSub,Nat.reduceMul,Int.reduceToNat,reduceCtorEq,↓reduceIte,Int.reducePow,Nat.reducePow,Int.reduceMod,Nat.reduceLeDiff,Int.reduceLE,Int.reduceNe,Int.reduceEq,Nat.reduceEqDiff,Nat.reduceLT,Nat.reduceBEq,ty,noS,zck,Int.reduceEq,decide_true,decide_false,if_true,if_false]
 · exact hp.elim
set_option maxHeartbeats 4000000 in
theorem ruses22_sound : zas Try.prog 49 usesS := by
 refine zam (S := noS) (T := ty) zau ty_ok zbm Try.func49 (c := Try.f49.body.getD .skip) (by kernel_rfl) (by kernel_rfl) (fun xs pins hp _ => ?_)
 unfold usesS at hp ⊢
 split at hp
 · rename_i k _
   refine ⟨by simp,?_⟩
   unfold Try.f49
   rcases knd_cases k with ⟨h0,h1,h2,h3,h4,h5,h6,h7,h8,h9,h10,h11⟩ | rfl | rfl | rfl | rfl | rfl | rfl | rfl | rfl | rfl | rfl | rfl | rfl
   · have hu : zck k = [] := by unfold zck; simp only [h0,h1,h2,h3,h4,h5,h6,h7,h8,h9,h10,h11,if_false]
     have d0 := decide_eq_false h0
     have d1 := decide_eq_false h1
     have d2 := decide_eq_false h2
     have d3 := decide_eq_false h3
     have d4 := decide_eq_false h4
     have d5 := decide_eq_false h5
     have d6 := decide_eq_false h6
     have d7 := decide_eq_false h7
     have d8 := decide_eq_false h8
     have d9 := decide_eq_false h9
     have d10 := decide_eq_false h10
     have d11 := decide_eq_false h11
     simp only [go_sem,coe,zaa,Nat.reduceAdd,Nat.reduceSub,Nat.reduceMul,Int.reduceToNat,reduceCtorEq,↓reduceIte,Int.reducePow,Nat.reducePow,Int.reduceMod,Nat.reduceLeDiff,Int.reduceLE,Int.reduceNe,Int.reduceEq,Nat.reduceEqDiff,Nat.reduceLT,Nat.reduceBEq,ty,noS,hu,d0,d1,d2,d3,d4,d5,d6,d7,d8,d9,d10,d11]
   all_goals simp only [go_sem,coe,zaa,Nat.reduceAdd,Nat.reduceSub,Nat.reduceMul,Int.reduceToNat,reduceCtorEq,↓reduceIte,Int.reducePow,Nat.reducePow,Int.reduceMod,Nat.reduceLeDiff,Int.reduceLE,Int.reduceNe,Int.reduceEq,Nat.reduceEqDiff,Nat.reduceLT,Nat.reduceBEq,ty,noS,zck,Int.reduceEq,decide_true,decide_false,if_true,if_false]
 · exact hp.elim
set_option maxHeartbeats 4000000 in
theorem text22_sound : SoundO Try.prog 67 textO := by
 refine fn_soundO (S := noS) (SO := noO) (T := ty) zau ty_ok zbm noO_ok Try.func67 (c := Try.f67.body.getD .skip) (by kernel_rfl) (fun xs pins hp => ?_)
 unfold textO at hp ⊢
 split at hp
 · rename_i c x
   have hx : x.closed = true := hp
   refine ⟨by simp,fun _ => .std,by kernel_rfl,?_⟩
   unfold Try.f67
   by_cases h116 : c = 116
   · subst h116
     simp only [go_sem,coe,zab,Nat.reduceAdd,Nat.reduceSub,Nat.reduceMul,Int.reduceToNat,reduceCtorEq,↓reduceIte,Int.reducePow,Nat.reducePow,Int.reduceMod,Nat.reduceLeDiff,Int.reduceLE,Int.reduceNe,Int.reduceEq,Nat.reduceEqDiff,Nat.reduceLT,Nat.reduceBEq,List.map_cons,List.map_nil,List.toList_toArray,Array.toList_append,Option.toArray_some,Option.toArray_none,Bool.and_self,ty,noS,textF,zcx,Int.reduceEq,Nat.reduceEqDiff,decide_true,decide_false,if_true,if_false]
     refine ⟨_,Weak.refl _,?_⟩
     simp only [go_sem,coe,zab,Nat.reduceAdd,Nat.reduceSub,Nat.reduceMul,Int.reduceToNat,reduceCtorEq,↓reduceIte,Int.reducePow,Nat.reducePow,Int.reduceMod,Nat.reduceLeDiff,Int.reduceLE,Int.reduceNe,Int.reduceEq,Nat.reduceEqDiff,Nat.reduceLT,Nat.reduceBEq,List.map_cons,List.map_nil,List.toList_toArray,Array.toList_append,Option.toArray_some,Option.toArray_none,Bool.and_self,ty,noS,hx]
   have d116 := decide_eq_false h116
   by_cases h103 : c = 103
   · subst h103
     simp only [go_sem,coe,zab,Nat.reduceAdd,Nat.reduceSub,Nat.reduceMul,Int.reduceToNat,reduceCtorEq,↓reduceIte,Int.reducePow,Nat.reducePow,Int.reduceMod,Nat.reduceLeDiff,Int.reduceLE,Int.reduceNe,Int.reduceEq,Nat.reduceEqDiff,Nat.reduceLT,Nat.reduceBEq,List.map_cons,List.map_nil,List.toList_toArray,Array.toList_append,Option.toArray_some,Option.toArray_none,Bool.and_self,ty,noS,textF,zcx,Int.reduceEq,Nat.reduceEqDiff,decide_true,decide_false,if_true,if_false]
     refine ⟨_,Weak.refl _,?_⟩
     simp only [go_sem,coe,zab,Nat.reduceAdd,Nat.reduceSub,Nat.reduceMul,Int.reduceToNat,reduceCtorEq,↓reduceIte,Int.reducePow,Nat.reducePow,Int.reduceMod,Nat.reduceLeDiff,Int.reduceLE,Int.reduceNe,Int.reduceEq,Nat.reduceEqDiff,Nat.reduceLT,Nat.reduceBEq,List.map_cons,List.map_nil,List.toList_toArray,Array.toList_append,Option.toArray_some,Option.toArray_none,Bool.and_self,ty,noS,hx]
   have d103 := decide_eq_false h103
   by_cases h107 : c = 107
   · subst h107
     simp only [go_sem,coe,zab,Nat.reduceAdd,Nat.reduceSub,Nat.reduceMul,Int.reduceToNat,reduceCtorEq,↓reduceIte,Int.reducePow,Nat.reducePow,Int.reduceMod,Nat.reduceLeDiff,Int.reduceLE,Int.reduceNe,Int.reduceEq,Nat.reduceEqDiff,Nat.reduceLT,Nat.reduceBEq,List.map_cons,List.map_nil,List.toList_toArray,Array.toList_append,Option.toArray_some,Option.toArray_none,Bool.and_self,ty,noS,textF,zcx,Int.reduceEq,Nat.reduceEqDiff,decide_true,decide_false,if_true,if_false]
     refine ⟨_,Weak.refl _,?_⟩
     simp only [go_sem,coe,zab,Nat.reduceAdd,Nat.reduceSub,Nat.reduceMul,Int.reduceToNat,reduceCtorEq,↓reduceIte,Int.reducePow,Nat.reducePow,Int.reduceMod,Nat.reduceLeDiff,Int.reduceLE,Int.reduceNe,Int.reduceEq,Nat.reduceEqDiff,Nat.reduceLT,Nat.reduceBEq,List.map_cons,List.map_nil,List.toList_toArray,Array.toList_append,Option.toArray_some,Option.toArray_none,Bool.and_self,ty,noS,hx]
   have d107 := decide_eq_false h107
   have hv : zcx (textF c) = .w (.pointer none) := by unfold textF; simp only [h116,h103,h107,if_false]; rfl
   simp only [go_sem,coe,zab,Nat.reduceAdd,Nat.reduceSub,Nat.reduceMul,Int.reduceToNat,reduceCtorEq,↓reduceIte,Int.reducePow,Nat.reducePow,Int.reduceMod,Nat.reduceLeDiff,Int.reduceLE,Int.reduceNe,Int.reduceEq,Nat.reduceEqDiff,Nat.reduceLT,Nat.reduceBEq,List.map_cons,List.map_nil,List.toList_toArray,Array.toList_append,Option.toArray_some,Option.toArray_none,Bool.and_self,ty,noS,hv,d116,d103,d107]
   refine ⟨_,Weak.refl _,?_⟩
   simp only [go_sem,coe,zab,Nat.reduceAdd,Nat.reduceSub,Nat.reduceMul,Int.reduceToNat,reduceCtorEq,↓reduceIte,Int.reducePow,Nat.reducePow,Int.reduceMod,Nat.reduceLeDiff,Int.reduceLE,Int.reduceNe,Int.reduceEq,Nat.reduceEqDiff,Nat.reduceLT,Nat.reduceBEq,List.map_cons,List.map_nil,List.toList_toArray,Array.toList_append,Option.toArray_some,Option.toArray_none,Bool.and_self,ty,noS,hv,hx]
 · exact hp.elim
set_option maxHeartbeats 4000000 in
theorem yes22_sound : SoundO Try.prog 68 yesO := by
 refine fn_soundO (S := noS) (SO := noO) (T := ty) zau ty_ok zbm noO_ok Try.func68 (c := Try.f68.body.getD .skip) (by kernel_rfl) (fun xs pins hp => ?_)
 unfold yesO at hp ⊢
 split at hp
 · rename_i c x
   have hx : x.closed = true := hp
   refine ⟨by simp,fun _ => .std,by kernel_rfl,?_⟩
   unfold Try.f68
   by_cases h99 : c = 99
   · subst h99
     simp only [go_sem,coe,zab,Nat.reduceAdd,Nat.reduceSub,Nat.reduceMul,Int.reduceToNat,reduceCtorEq,↓reduceIte,Int.reducePow,Nat.reducePow,Int.reduceMod,Nat.reduceLeDiff,Int.reduceLE,Int.reduceNe,Int.reduceEq,Nat.reduceEqDiff,Nat.reduceLT,Nat.reduceBEq,List.map_cons,List.map_nil,List.toList_toArray,Array.toList_append,Option.toArray_some,Option.toArray_none,Bool.and_self,ty,noS,yesF,zcx,Int.reduceEq,Nat.reduceEqDiff,decide_true,decide_false,if_true,if_false]
     refine ⟨_,Weak.refl _,?_⟩
     simp only [go_sem,coe,zab,Nat.reduceAdd,Nat.reduceSub,Nat.reduceMul,Int.reduceToNat,reduceCtorEq,↓reduceIte,Int.reducePow,Nat.reducePow,Int.reduceMod,Nat.reduceLeDiff,Int.reduceLE,Int.reduceNe,Int.reduceEq,Nat.reduceEqDiff,Nat.reduceLT,Nat.reduceBEq,List.map_cons,List.map_nil,List.toList_toArray,Array.toList_append,Option.toArray_some,Option.toArray_none,Bool.and_self,ty,noS,hx]
   have d99 := decide_eq_false h99
   by_cases h102 : c = 102
   · subst h102
     simp only [go_sem,coe,zab,Nat.reduceAdd,Nat.reduceSub,Nat.reduceMul,Int.reduceToNat,reduceCtorEq,↓reduceIte,Int.reducePow,Nat.reducePow,Int.reduceMod,Nat.reduceLeDiff,Int.reduceLE,Int.reduceNe,Int.reduceEq,Nat.reduceEqDiff,Nat.reduceLT,Nat.reduceBEq,List.map_cons,List.map_nil,List.toList_toArray,Array.toList_append,Option.toArray_some,Option.toArray_none,Bool.and_self,ty,noS,yesF,zcx,Int.reduceEq,Nat.reduceEqDiff,decide_true,decide_false,if_true,if_false]
     refine ⟨_,Weak.refl _,?_⟩
     simp only [go_sem,coe,zab,Nat.reduceAdd,Nat.reduceSub,Nat.reduceMul,Int.reduceToNat,reduceCtorEq,↓reduceIte,Int.reducePow,Nat.reducePow,Int.reduceMod,Nat.reduceLeDiff,Int.reduceLE,Int.reduceNe,Int.reduceEq,Nat.reduceEqDiff,Nat.reduceLT,Nat.reduceBEq,List.map_cons,List.map_nil,List.toList_toArray,Array.toList_append,Option.toArray_some,Option.toArray_none,Bool.and_self,ty,noS,hx]
   have d102 := decide_eq_false h102
   have hv : zcx (yesF c) = .w (.pointer none) := by unfold yesF; simp only [h99,h102,if_false]; rfl
   simp only [go_sem,coe,zab,Nat.reduceAdd,Nat.reduceSub,Nat.reduceMul,Int.reduceToNat,reduceCtorEq,↓reduceIte,Int.reducePow,Nat.reducePow,Int.reduceMod,Nat.reduceLeDiff,Int.reduceLE,Int.reduceNe,Int.reduceEq,Nat.reduceEqDiff,Nat.reduceLT,Nat.reduceBEq,List.map_cons,List.map_nil,List.toList_toArray,Array.toList_append,Option.toArray_some,Option.toArray_none,Bool.and_self,ty,noS,hv,d99,d102]
   refine ⟨_,Weak.refl _,?_⟩
   simp only [go_sem,coe,zab,Nat.reduceAdd,Nat.reduceSub,Nat.reduceMul,Int.reduceToNat,reduceCtorEq,↓reduceIte,Int.reducePow,Nat.reducePow,Int.reduceMod,Nat.reduceLeDiff,Int.reduceLE,Int.reduceNe,Int.reduceEq,Nat.reduceEqDiff,Nat.reduceLT,Nat.reduceBEq,List.map_cons,List.map_nil,List.toList_toArray,Array.toList_append,Option.toArray_some,Option.toArray_none,Bool.and_self,ty,noS,hv,hx]
 · exact hp.elim
set_option maxHeartbeats 4000000 in
theorem numb22_sound : SoundO Try.prog 70 numbO := by
 refine fn_soundO (S := noS) (SO := noO) (T := ty) zau ty_ok zbm noO_ok Try.func70 (c := Try.f70.body.getD .skip) (by kernel_rfl) (fun xs pins hp => ?_)
 unfold numbO at hp ⊢
 split at hp
 · rename_i c x
   have hx : x.closed = true := hp
   refine ⟨by simp,fun _ => .std,by kernel_rfl,?_⟩
   unfold Try.f70
   by_cases h105 : c = 105
   · subst h105
     simp only [go_sem,coe,zab,Nat.reduceAdd,Nat.reduceSub,Nat.reduceMul,Int.reduceToNat,reduceCtorEq,↓reduceIte,Int.reducePow,Nat.reducePow,Int.reduceMod,Nat.reduceLeDiff,Int.reduceLE,Int.reduceNe,Int.reduceEq,Nat.reduceEqDiff,Nat.reduceLT,Nat.reduceBEq,List.map_cons,List.map_nil,List.toList_toArray,Array.toList_append,Option.toArray_some,Option.toArray_none,Bool.and_self,ty,noS,zep,zcx,Int.reduceEq,Nat.reduceEqDiff,decide_true,decide_false,if_true,if_false]
     refine ⟨_,Weak.refl _,?_⟩
     simp only [go_sem,coe,zab,Nat.reduceAdd,Nat.reduceSub,Nat.reduceMul,Int.reduceToNat,reduceCtorEq,↓reduceIte,Int.reducePow,Nat.reducePow,Int.reduceMod,Nat.reduceLeDiff,Int.reduceLE,Int.reduceNe,Int.reduceEq,Nat.reduceEqDiff,Nat.reduceLT,Nat.reduceBEq,List.map_cons,List.map_nil,List.toList_toArray,Array.toList_append,Option.toArray_some,Option.toArray_none,Bool.and_self,ty,noS,hx]
   have d105 := decide_eq_false h105
   by_cases h112 : c = 112
   · subst h112
     simp only [go_sem,coe,zab,Nat.reduceAdd,Nat.reduceSub,Nat.reduceMul,Int.reduceToNat,reduceCtorEq,↓reduceIte,Int.reducePow,Nat.reducePow,Int.reduceMod,Nat.reduceLeDiff,Int.reduceLE,Int.reduceNe,Int.reduceEq,Nat.reduceEqDiff,Nat.reduceLT,Nat.reduceBEq,List.map_cons,List.map_nil,List.toList_toArray,Array.toList_append,Option.toArray_some,Option.toArray_none,Bool.and_self,ty,noS,zep,zcx,Int.reduceEq,Nat.reduceEqDiff,decide_true,decide_false,if_true,if_false]
     refine ⟨_,Weak.refl _,?_⟩
     simp only [go_sem,coe,zab,Nat.reduceAdd,Nat.reduceSub,Nat.reduceMul,Int.reduceToNat,reduceCtorEq,↓reduceIte,Int.reducePow,Nat.reducePow,Int.reduceMod,Nat.reduceLeDiff,Int.reduceLE,Int.reduceNe,Int.reduceEq,Nat.reduceEqDiff,Nat.reduceLT,Nat.reduceBEq,List.map_cons,List.map_nil,List.toList_toArray,Array.toList_append,Option.toArray_some,Option.toArray_none,Bool.and_self,ty,noS,hx]
   have d112 := decide_eq_false h112
   by_cases h111 : c = 111
   · subst h111
     simp only [go_sem,coe,zab,Nat.reduceAdd,Nat.reduceSub,Nat.reduceMul,Int.reduceToNat,reduceCtorEq,↓reduceIte,Int.reducePow,Nat.reducePow,Int.reduceMod,Nat.reduceLeDiff,Int.reduceLE,Int.reduceNe,Int.reduceEq,Nat.reduceEqDiff,Nat.reduceLT,Nat.reduceBEq,List.map_cons,List.map_nil,List.toList_toArray,Array.toList_append,Option.toArray_some,Option.toArray_none,Bool.and_self,ty,noS,zep,zcx,Int.reduceEq,Nat.reduceEqDiff,decide_true,decide_false,if_true,if_false]
     refine ⟨_,Weak.refl _,?_⟩
     simp only [go_sem,coe,zab,Nat.reduceAdd,Nat.reduceSub,Nat.reduceMul,Int.reduceToNat,reduceCtorEq,↓reduceIte,Int.reducePow,Nat.reducePow,Int.reduceMod,Nat.reduceLeDiff,Int.reduceLE,Int.reduceNe,Int.reduceEq,Nat.reduceEqDiff,Nat.reduceLT,Nat.reduceBEq,List.map_cons,List.map_nil,List.toList_toArray,Array.toList_append,Option.toArray_some,Option.toArray_none,Bool.and_self,ty,noS,hx]
   have d111 := decide_eq_false h111
   by_cases h109 : c = 109
   · subst h109
     simp only [go_sem,coe,zab,Nat.reduceAdd,Nat.reduceSub,Nat.reduceMul,Int.reduceToNat,reduceCtorEq,↓reduceIte,Int.reducePow,Nat.reducePow,Int.reduceMod,Nat.reduceLeDiff,Int.reduceLE,Int.reduceNe,Int.reduceEq,Nat.reduceEqDiff,Nat.reduceLT,Nat.reduceBEq,List.map_cons,List.map_nil,List.toList_toArray,Array.toList_append,Option.toArray_some,Option.toArray_none,Bool.and_self,ty,noS,zep,zcx,Int.reduceEq,Nat.reduceEqDiff,decide_true,decide_false,if_true,if_false]
     refine ⟨_,Weak.refl _,?_⟩
     simp only [go_sem,coe,zab,Nat.reduceAdd,Nat.reduceSub,Nat.reduceMul,Int.reduceToNat,reduceCtorEq,↓reduceIte,Int.reducePow,Nat.reducePow,Int.reduceMod,Nat.reduceLeDiff,Int.reduceLE,Int.reduceNe,Int.reduceEq,Nat.reduceEqDiff,Nat.reduceLT,Nat.reduceBEq,List.map_cons,List.map_nil,List.toList_toArray,Array.toList_append,Option.toArray_some,Option.toArray_none,Bool.and_self,ty,noS,hx]
   have d109 := decide_eq_false h109
   by_cases h119 : c = 119
   · subst h119
     simp only [go_sem,coe,zab,Nat.reduceAdd,Nat.reduceSub,Nat.reduceMul,Int.reduceToNat,reduceCtorEq,↓reduceIte,Int.reducePow,Nat.reducePow,Int.reduceMod,Nat.reduceLeDiff,Int.reduceLE,Int.reduceNe,Int.reduceEq,Nat.reduceEqDiff,Nat.reduceLT,Nat.reduceBEq,List.map_cons,List.map_nil,List.toList_toArray,Array.toList_append,Option.toArray_some,Option.toArray_none,Bool.and_self,ty,noS,zep,zcx,Int.reduceEq,Nat.reduceEqDiff,decide_true,decide_false,if_true,if_false]
     refine ⟨_,Weak.refl _,?_⟩
     simp only [go_sem,coe,zab,Nat.reduceAdd,Nat.reduceSub,Nat.reduceMul,Int.reduceToNat,reduceCtorEq,↓reduceIte,Int.reducePow,Nat.reducePow,Int.reduceMod,Nat.reduceLeDiff,Int.reduceLE,Int.reduceNe,Int.reduceEq,Nat.reduceEqDiff,Nat.reduceLT,Nat.reduceBEq,List.map_cons,List.map_nil,List.toList_toArray,Array.toList_append,Option.toArray_some,Option.toArray_none,Bool.and_self,ty,noS,hx]
   have d119 := decide_eq_false h119
   by_cases h110 : c = 110
   · subst h110
     simp only [go_sem,coe,zab,Nat.reduceAdd,Nat.reduceSub,Nat.reduceMul,Int.reduceToNat,reduceCtorEq,↓reduceIte,Int.reducePow,Nat.reducePow,Int.reduceMod,Nat.reduceLeDiff,Int.reduceLE,Int.reduceNe,Int.reduceEq,Nat.reduceEqDiff,Nat.reduceLT,Nat.reduceBEq,List.map_cons,List.map_nil,List.toList_toArray,Array.toList_append,Option.toArray_some,Option.toArray_none,Bool.and_self,ty,noS,zep,zcx,Int.reduceEq,Nat.reduceEqDiff,decide_true,decide_false,if_true,if_false]
     refine ⟨_,Weak.refl _,?_⟩
     simp only [go_sem,coe,zab,Nat.reduceAdd,Nat.reduceSub,Nat.reduceMul,Int.reduceToNat,reduceCtorEq,↓reduceIte,Int.reducePow,Nat.reducePow,Int.reduceMod,Nat.reduceLeDiff,Int.reduceLE,Int.reduceNe,Int.reduceEq,Nat.reduceEqDiff,Nat.reduceLT,Nat.reduceBEq,List.map_cons,List.map_nil,List.toList_toArray,Array.toList_append,Option.toArray_some,Option.toArray_none,Bool.and_self,ty,noS,hx]
   have d110 := decide_eq_false h110
   have hv : zcx (zep c) = .w (.pointer none) := by unfold zep; simp only [h105,h112,h111,h109,h119,h110,if_false]; rfl
   simp only [go_sem,coe,zab,Nat.reduceAdd,Nat.reduceSub,Nat.reduceMul,Int.reduceToNat,reduceCtorEq,↓reduceIte,Int.reducePow,Nat.reducePow,Int.reduceMod,Nat.reduceLeDiff,Int.reduceLE,Int.reduceNe,Int.reduceEq,Nat.reduceEqDiff,Nat.reduceLT,Nat.reduceBEq,List.map_cons,List.map_nil,List.toList_toArray,Array.toList_append,Option.toArray_some,Option.toArray_none,Bool.and_self,ty,noS,hv,d105,d112,d111,d109,d119,d110]
   refine ⟨_,Weak.refl _,?_⟩
   simp only [go_sem,coe,zab,Nat.reduceAdd,Nat.reduceSub,Nat.reduceMul,Int.reduceToNat,reduceCtorEq,↓reduceIte,Int.reducePow,Nat.reducePow,Int.reduceMod,Nat.reduceLeDiff,Int.reduceLE,Int.reduceNe,Int.reduceEq,Nat.reduceEqDiff,Nat.reduceLT,Nat.reduceBEq,List.map_cons,List.map_nil,List.toList_toArray,Array.toList_append,Option.toArray_some,Option.toArray_none,Bool.and_self,ty,noS,hv,hx]
 · exact hp.elim
end
end Go.Proofs.Ytihbcgbmlecpbaa
namespace Go.Proofs.Ytihbcgbmlecpbaa
open Ax
theorem dc22_0 : (decR [116] 0 = 116 ∧ decW [116] 0 = 1) := by decide +kernel
theorem dc22_1 : (decR [103,107] 0 = 103 ∧ decW [103,107] 0 = 1) ∧ (decR [103,107] 1 = 107 ∧ decW [103,107] 1 = 1) := by decide +kernel
theorem dc22_2 : (decR [103,107,110] 0 = 103 ∧ decW [103,107,110] 0 = 1) ∧ (decR [103,107,110] 1 = 107 ∧ decW [103,107,110] 1 = 1) ∧ (decR [103,107,110] 2 = 110 ∧ decW [103,107,110] 2 = 1) := by decide +kernel
theorem dc22_3 : (decR [116,105,103] 0 = 116 ∧ decW [116,105,103] 0 = 1) ∧ (decR [116,105,103] 1 = 105 ∧ decW [116,105,103] 1 = 1) ∧ (decR [116,105,103] 2 = 103 ∧ decW [116,105,103] 2 = 1) := by decide +kernel
theorem dc22_4 : (decR [116,105,119] 0 = 116 ∧ decW [116,105,119] 0 = 1) ∧ (decR [116,105,119] 1 = 105 ∧ decW [116,105,119] 1 = 1) ∧ (decR [116,105,119] 2 = 119 ∧ decW [116,105,119] 2 = 1) := by decide +kernel
theorem dc22_5 : (decR [116,112,99] 0 = 116 ∧ decW [116,112,99] 0 = 1) ∧ (decR [116,112,99] 1 = 112 ∧ decW [116,112,99] 1 = 1) ∧ (decR [116,112,99] 2 = 99 ∧ decW [116,112,99] 2 = 1) := by decide +kernel
theorem dc22_6 : (decR [116,103,107,110] 0 = 116 ∧ decW [116,103,107,110] 0 = 1) ∧ (decR [116,103,107,110] 1 = 103 ∧ decW [116,103,107,110] 1 = 1) ∧ (decR [116,103,107,110] 2 = 107 ∧ decW [116,103,107,110] 2 = 1) ∧ (decR [116,103,107,110] 3 = 110 ∧ decW [116,103,107,110] 3 = 1) := by decide +kernel
theorem dc22_7 : (decR [116,105,102,98] 0 = 116 ∧ decW [116,105,102,98] 0 = 1) ∧ (decR [116,105,102,98] 1 = 105 ∧ decW [116,105,102,98] 1 = 1) ∧ (decR [116,105,102,98] 2 = 102 ∧ decW [116,105,102,98] 2 = 1) ∧ (decR [116,105,102,98] 3 = 98 ∧ decW [116,105,102,98] 3 = 1) := by decide +kernel
theorem dc22_8 : (decR [116,105,111,109] 0 = 116 ∧ decW [116,105,111,109] 0 = 1) ∧ (decR [116,105,111,109] 1 = 105 ∧ decW [116,105,111,109] 1 = 1) ∧ (decR [116,105,111,109] 2 = 111 ∧ decW [116,105,111,109] 2 = 1) ∧ (decR [116,105,111,109] 3 = 109 ∧ decW [116,105,111,109] 3 = 1) := by decide +kernel
theorem dc22_9 : (decR [116,105,111,103,107,110] 0 = 116 ∧ decW [116,105,111,103,107,110] 0 = 1) ∧ (decR [116,105,111,103,107,110] 1 = 105 ∧ decW [116,105,111,103,107,110] 1 = 1) ∧ (decR [116,105,111,103,107,110] 2 = 111 ∧ decW [116,105,111,103,107,110] 2 = 1) ∧ (decR [116,105,111,103,107,110] 3 = 103 ∧ decW [116,105,111,103,107,110] 3 = 1) ∧ (decR [116,105,111,103,107,110] 4 = 107 ∧ decW [116,105,111,103,107,110] 4 = 1) ∧ (decR [116,105,111,103,107,110] 5 = 110 ∧ decW [116,105,111,103,107,110] 5 = 1) := by decide +kernel
def onlyQ (k : Int) (t : List UInt8) (i p : Int) (c f : Bool) (o m w : Int) (g mb : List UInt8) (n b1 b2 b3 b4 b5 : Int) (xs : List AV) (fl : Bool) : AV :=
 .agg [.w (.int .u8 k),.str (if k = 0 ∨ k = 1 ∨ k = 2 ∨ k = 3 ∨ k = 4 ∨ k = 5 ∨ k = 7 ∨ k = 10 ∨ k = 11 then t else []),.w (.int .i64 (if k = 3 ∨ k = 4 ∨ k = 5 ∨ k = 10 ∨ k = 11 then i else 0)),.w (.int .i64 (if k = 0 then p else 0)),.w (.bool (if k = 0 then c else false)),.w (.bool (if k = 3 then f else false)),.w (.int .i64 (if k = 4 ∨ k = 10 then o else 0)),.w (.int .i64 (if k = 4 then m else 0)),.w (.int .i64 (if k = 5 then w else 0)),.str (if k = 6 ∨ k = 7 ∨ k = 8 ∨ k = 9 ∨ k = 10 ∨ k = 11 then g else []),.str (if k = 6 ∨ k = 7 ∨ k = 8 ∨ k = 9 ∨ k = 10 then mb else []),.w (.int .i64 (if k = 7 ∨ k = 8 ∨ k = 10 then n else 0)),
   .w (.int .i64 (if k = 3 then b1 else 0)),.w (.int .i64 (if k = 3 then b2 else 0)),.w (.int .i64 (if k = 3 then b3 else 0)),.w (.int .i64 (if k = 3 then b4 else 0)),.w (.int .i64 (if k = 3 then b5 else 0)),.sg 6 (if k = 3 then xs else []) (if k = 3 then fl else true)]
def zch : zah
 | [.agg [.w (.int .u8 k),.str t,.w (.int .i64 i),.w (.int .i64 p),.w (.bool c),.w (.bool f),.w (.int .i64 o),.w (.int .i64 m),.w (.int .i64 w),.str g,.str mb,.w (.int .i64 n),.w (.int .i64 b1),.w (.int .i64 b2),.w (.int .i64 b3),.w (.int .i64 b4),.w (.int .i64 b5),.sg 6 xs fl]],[] => ⟨0 ≤ k ∧ k ≤ 11,onlyQ k t i p c f o m w g mb n b1 b2 b3 b4 b5 xs fl,[]⟩
 | _,_ => zbc
def Sjust22 (f : FuncId) : Option zah :=
 match f with
 | 44 => some usesS
 | _ => none
theorem Sjust22_ok : Fns Try.prog Sjust22 := by
 intro f s h
 unfold Sjust22 at h
 split at h
 · injection h with h; subst h; exact ⟨⟨_,Try.func44,by kernel_rfl,by kernel_rfl⟩,uses22_sound⟩
 · cases h
def zbx (f : FuncId) : Option zah :=
 match f with
 | 67 => some textO
 | 68 => some yesO
 | 70 => some numbO
 | _ => none
theorem Ojust22_ok : FnsO Try.prog zbx := by
 intro f s h
 unfold zbx at h
 split at h
 · injection h with h; subst h; exact ⟨⟨_,Try.func67,by kernel_rfl,by kernel_rfl⟩,text22_sound⟩
 · injection h with h; subst h; exact ⟨⟨_,Try.func68,by kernel_rfl,by kernel_rfl⟩,yes22_sound⟩
 · injection h with h; subst h; exact ⟨⟨_,Try.func70,by kernel_rfl,by kernel_rfl⟩,numb22_sound⟩
 · cases h
def just22Pl : XPlan := fun id => match id with
 | 5 => .opn [] 1
 | 7 => .opn [] 2
 | 8 => .opn [] 1
 | 10 => .opn [] 2
 | 11 => .opn [] 1
 | 13 => .opn [] 2
 | _ => .std
section
set_option maxRecDepth 100000
set_option maxHeartbeats 40000000 in
theorem just22_sound : zas Try.prog 65 zch := by
 refine zcq (S := Sjust22) (SO := zbx) (T := ty) zau ty_ok Sjust22_ok Ojust22_ok Try.func65 (c := Try.f65.body.getD .skip) (by kernel_rfl) (fun xs pins hp _ => ?_)
 unfold zch at hp ⊢
 split at hp
 · rename_i k t i p c f o m w g mb n b1 b2 b3 b4 b5 xs fl _
   have hk : 0 ≤ k ∧ k ≤ 11 := hp
   refine ⟨by simp,just22Pl,by kernel_rfl,?_⟩
   rcases knd_le k hk with rfl | rfl | rfl | rfl | rfl | rfl | rfl | rfl | rfl | rfl | rfl | rfl
   all_goals
     unfold Try.f65
     simp only [go_sem,coe,zab,Nat.reduceAdd,Nat.reduceSub,Nat.reduceMul,Int.reduceToNat,reduceCtorEq,↓reduceIte,Int.reducePow,Nat.reducePow,Int.reduceMod,Nat.reduceLeDiff,Int.reduceLE,Int.reduceNe,Int.reduceEq,Nat.reduceEqDiff,Nat.reduceLT,Nat.reduceBEq,List.map_cons,List.map_nil,List.toList_toArray,Array.toList_append,Option.toArray_some,Option.toArray_none,Bool.and_self,ty,Sjust22,zbx,just22Pl,usesS,zck,fillS,Int.reduceEq,Int.reduceLT,Int.reduceLE,or_self,or_false,false_or,or_true,true_or,if_true,if_false]
     refine awpO_unr 8 ?_
     simp only [go_sem,coe,zab,Nat.reduceAdd,Nat.reduceSub,Nat.reduceMul,Int.reduceToNat,reduceCtorEq,↓reduceIte,Int.reducePow,Nat.reducePow,Int.reduceMod,Nat.reduceLeDiff,Int.reduceLE,Int.reduceNe,Int.reduceEq,Nat.reduceEqDiff,Nat.reduceLT,Nat.reduceBEq,List.map_cons,List.map_nil,List.toList_toArray,Array.toList_append,Option.toArray_some,Option.toArray_none,Bool.and_self,ty,Sjust22,zbx,just22Pl,textO,yesO,numbO,textF,yesF,zep,zcx,unrO_go,unK_normal,unK_exit,unK_ret,Int.reduceAdd,Int.reduceSub,Int.cast_ofNat_Int,fillS,Int.reduceEq,Int.reduceLT,Int.reduceLE,or_self,or_false,false_or,or_true,true_or,if_true,if_false,dc22_0,dc22_1,dc22_2,dc22_3,dc22_4,dc22_5,dc22_6,dc22_7,dc22_8,dc22_9]
     refine ⟨_,Weak.refl _,?_⟩
     simp only [go_sem,coe,zab,Nat.reduceAdd,Nat.reduceSub,Nat.reduceMul,Int.reduceToNat,reduceCtorEq,↓reduceIte,Int.reducePow,Nat.reducePow,Int.reduceMod,Nat.reduceLeDiff,Int.reduceLE,Int.reduceNe,Int.reduceEq,Nat.reduceEqDiff,Nat.reduceLT,Nat.reduceBEq,List.map_cons,List.map_nil,List.toList_toArray,Array.toList_append,Option.toArray_some,Option.toArray_none,Bool.and_self,ty,onlyQ,Int.reduceEq,Int.reduceLT,Int.reduceLE,or_self,or_false,false_or,or_true,true_or,if_true,if_false]
 · exact hp.elim
end
end Go.Proofs.Ytihbcgbmlecpbaa
namespace Go.Proofs.Ytihbcgbmlecpbaa
open Ax
def hasL (s : List UInt8) (c : Int) : Bool := s.any fun b => decide ((b.toNat : Int) = c)
def hasS : zah
 | [.str s,.w (.int .u8 c)],[] => ⟨s.length ≤ 1000000,.w (.bool (hasL s c)),[]⟩
 | _,_ => zbc
theorem zay {T : zac} {sl : List AV} {H : Heap} {nx : Nat} {v : Value} {q : Prop} (i : Nat) (h : slot sl i = .w v) : EndsW T [.tmp i] [] ⟨q,.w v,[]⟩ .ret ⟨sl,H,nx⟩ := by
 refine ⟨_,Weak.refl _,?_⟩
 simp only [Ax.Ends,Ax.rvals,EndsX,rone,h,AV.ids,idsL,newIds,upTo,nodup,pinsOf,List.nil_append,AV.ren,and_self]
section
set_option maxRecDepth 100000
set_option maxHeartbeats 2000000 in
theorem has22_sound : zas Try.prog 72 hasS := by
 refine zbj (S := noS) (T := ty) zau ty_ok zbm Try.func72 (c := Try.f72.body.getD .skip) (by kernel_rfl) (by kernel_rfl) (fun xs pins hp _ => ?_)
 unfold hasS at hp ⊢
 split at hp
 · rename_i s c _
   have hs : s.length ≤ 1000000 := hp
   refine ⟨by simp,?_⟩
   unfold Try.f72
   simp only [go_sem,coe,zaa,Nat.reduceAdd,Nat.reduceSub,Nat.reduceMul,Int.reduceToNat,reduceCtorEq,↓reduceIte,Int.reducePow,Nat.reducePow,Int.reduceMod,Nat.reduceLeDiff,Int.reduceLE,Int.reduceNe,Int.reduceEq,Nat.reduceEqDiff,Nat.reduceLT,Nat.reduceBEq,ty,noS]
   refine zdl ⟨fun m σ => ∃ i : Nat,m = s.length - i ∧ i ≤ s.length ∧ hasL (s.drop i) c = hasL s c ∧
     σ = ⟨[.str s,.w (.int .u8 c),.junk,.junk,.junk,.w (.int .i64 i),.junk,.junk,.junk,.junk,.junk,.junk,.junk,.junk,.junk,.junk,.junk],[],4⟩,?_,?_⟩
   · refine ⟨_,_,zag [0,1,2,3] rfl rfl rfl ?_ ?_,0,rfl,by omega,rfl,rfl⟩
     · simp only [ssT,zai,zaj,setSlot,gOf,AV.ren,renL,Blk.ren,Ax.look,Ax.put,reduceCtorEq,↓reduceIte,Nat.reduceEqDiff,Nat.reduceLT,Nat.reduceAdd,List.length_append,List.length_cons,List.length_nil,Option.some.injEq]; try simp
     · simp only [ssT,zai,zaj,setSlot,gOf,AV.ren,renL,Blk.ren,Ax.look,Ax.put,reduceCtorEq,↓reduceIte,Nat.reduceEqDiff,Nat.reduceLT,Nat.reduceAdd,List.length_append,List.length_cons,List.length_nil,Option.some.injEq]
   · rintro m σ ⟨i,rfl,hi,hh,rfl⟩
     by_cases hil : i < s.length
     · have d1 : decide ((i : Int) < s.length) = true := decide_eq_true (by omega)
       have e1 : ((i : Int) + 1 + 9223372036854775808) % 18446744073709551616 - 9223372036854775808 = ((i + 1 : Nat) : Int) := by omega
       have eg : s.getD i 0 = s[i] := by simp [hil]
       rw [List.drop_eq_getElem_cons hil] at hh
       have hh : (decide ((s[i].toNat : Int) = c) || hasL (s.drop (i + 1)) c) = hasL s c := hh
       by_cases hc : (s[i].toNat : Int) = c
       · have d2 := decide_eq_true hc
         rw [d2,Bool.true_or] at hh
         rw [← hh]
         simp only [go_sem,coe,zaa,Nat.reduceAdd,Nat.reduceSub,Nat.reduceMul,Int.reduceToNat,reduceCtorEq,↓reduceIte,Int.reducePow,Nat.reducePow,Int.reduceMod,Nat.reduceLeDiff,Int.reduceLE,Int.reduceNe,Int.reduceEq,Nat.reduceEqDiff,Nat.reduceLT,Nat.reduceBEq,ty,noS,d1,eg,d2,Int.toNat_natCast]
         refine ⟨by omega,_,Weak.refl _,?_⟩
         simp only [go_sem,coe,zaa,Nat.reduceAdd,Nat.reduceSub,Nat.reduceMul,Int.reduceToNat,reduceCtorEq,↓reduceIte,Int.reducePow,Nat.reducePow,Int.reduceMod,Nat.reduceLeDiff,Int.reduceLE,Int.reduceNe,Int.reduceEq,Nat.reduceEqDiff,Nat.reduceLT,Nat.reduceBEq,ty,noS]
         exact zay 4 rfl
       · have d2 := decide_eq_false hc
         rw [d2,Bool.false_or] at hh
         simp only [go_sem,coe,zaa,Nat.reduceAdd,Nat.reduceSub,Nat.reduceMul,Int.reduceToNat,reduceCtorEq,↓reduceIte,Int.reducePow,Nat.reducePow,Int.reduceMod,Nat.reduceLeDiff,Int.reduceLE,Int.reduceNe,Int.reduceEq,Nat.reduceEqDiff,Nat.reduceLT,Nat.reduceBEq,ty,noS,d1,eg,d2,e1,Int.toNat_natCast]
         refine ⟨by omega,s.length - (i + 1),_,by omega,zag [0,1,2,3] rfl rfl rfl ?_ ?_,i + 1,rfl,by omega,hh,rfl⟩
         · simp only [ssT,zai,zaj,setSlot,gOf,AV.ren,renL,Blk.ren,Ax.look,Ax.put,reduceCtorEq,↓reduceIte,Nat.reduceEqDiff,Nat.reduceLT,Nat.reduceAdd,List.length_append,List.length_cons,List.length_nil,Option.some.injEq]
         · simp only [ssT,zai,zaj,setSlot,gOf,AV.ren,renL,Blk.ren,Ax.look,Ax.put,reduceCtorEq,↓reduceIte,Nat.reduceEqDiff,Nat.reduceLT,Nat.reduceAdd,List.length_append,List.length_cons,List.length_nil,Option.some.injEq]
     · have d1 : decide ((i : Int) < s.length) = false := decide_eq_false (by omega)
       rw [List.drop_of_length_le (by omega)] at hh
       have hh : false = hasL s c := hh
       rw [← hh]
       simp only [go_sem,coe,zaa,Nat.reduceAdd,Nat.reduceSub,Nat.reduceMul,Int.reduceToNat,reduceCtorEq,↓reduceIte,Int.reducePow,Nat.reducePow,Int.reduceMod,Nat.reduceLeDiff,Int.reduceLE,Int.reduceNe,Int.reduceEq,Nat.reduceEqDiff,Nat.reduceLT,Nat.reduceBEq,ty,noS,d1]
       refine ⟨_,Weak.refl _,?_⟩
       simp only [go_sem,coe,zaa,Nat.reduceAdd,Nat.reduceSub,Nat.reduceMul,Int.reduceToNat,reduceCtorEq,↓reduceIte,Int.reducePow,Nat.reducePow,Int.reduceMod,Nat.reduceLeDiff,Int.reduceLE,Int.reduceNe,Int.reduceEq,Nat.reduceEqDiff,Nat.reduceLT,Nat.reduceBEq,ty,noS]
       exact zay 4 rfl
 · exact hp.elim
end
theorem hs22_0 : hasL [116] 116 = true ∧ hasL [116] 105 = false ∧ hasL [116] 112 = false ∧ hasL [116] 99 = false ∧ hasL [116] 102 = false ∧ hasL [116] 111 = false ∧ hasL [116] 109 = false ∧ hasL [116] 119 = false ∧ hasL [116] 103 = false ∧ hasL [116] 107 = false ∧ hasL [116] 110 = false := by decide +kernel
theorem hs22_1 : hasL [103,107] 116 = false ∧ hasL [103,107] 105 = false ∧ hasL [103,107] 112 = false ∧ hasL [103,107] 99 = false ∧ hasL [103,107] 102 = false ∧ hasL [103,107] 111 = false ∧ hasL [103,107] 109 = false ∧ hasL [103,107] 119 = false ∧ hasL [103,107] 103 = true ∧ hasL [103,107] 107 = true ∧ hasL [103,107] 110 = false := by decide +kernel
theorem hs22_2 : hasL [103,107,110] 116 = false ∧ hasL [103,107,110] 105 = false ∧ hasL [103,107,110] 112 = false ∧ hasL [103,107,110] 99 = false ∧ hasL [103,107,110] 102 = false ∧ hasL [103,107,110] 111 = false ∧ hasL [103,107,110] 109 = false ∧ hasL [103,107,110] 119 = false ∧ hasL [103,107,110] 103 = true ∧ hasL [103,107,110] 107 = true ∧ hasL [103,107,110] 110 = true := by decide +kernel
theorem hs22_3 : hasL [116,105,103] 116 = true ∧ hasL [116,105,103] 105 = true ∧ hasL [116,105,103] 112 = false ∧ hasL [116,105,103] 99 = false ∧ hasL [116,105,103] 102 = false ∧ hasL [116,105,103] 111 = false ∧ hasL [116,105,103] 109 = false ∧ hasL [116,105,103] 119 = false ∧ hasL [116,105,103] 103 = true ∧ hasL [116,105,103] 107 = false ∧ hasL [116,105,103] 110 = false := by decide +kernel
theorem hs22_4 : hasL [116,105,119] 116 = true ∧ hasL [116,105,119] 105 = true ∧ hasL [116,105,119] 112 = false ∧ hasL [116,105,119] 99 = false ∧ hasL [116,105,119] 102 = false ∧ hasL [116,105,119] 111 = false ∧ hasL [116,105,119] 109 = false ∧ hasL [116,105,119] 119 = true ∧ hasL [116,105,119] 103 = false ∧ hasL [116,105,119] 107 = false ∧ hasL [116,105,119] 110 = false := by decide +kernel
theorem hs22_5 : hasL [116,112,99] 116 = true ∧ hasL [116,112,99] 105 = false ∧ hasL [116,112,99] 112 = true ∧ hasL [116,112,99] 99 = true ∧ hasL [116,112,99] 102 = false ∧ hasL [116,112,99] 111 = false ∧ hasL [116,112,99] 109 = false ∧ hasL [116,112,99] 119 = false ∧ hasL [116,112,99] 103 = false ∧ hasL [116,112,99] 107 = false ∧ hasL [116,112,99] 110 = false := by decide +kernel
theorem hs22_6 : hasL [116,103,107,110] 116 = true ∧ hasL [116,103,107,110] 105 = false ∧ hasL [116,103,107,110] 112 = false ∧ hasL [116,103,107,110] 99 = false ∧ hasL [116,103,107,110] 102 = false ∧ hasL [116,103,107,110] 111 = false ∧ hasL [116,103,107,110] 109 = false ∧ hasL [116,103,107,110] 119 = false ∧ hasL [116,103,107,110] 103 = true ∧ hasL [116,103,107,110] 107 = true ∧ hasL [116,103,107,110] 110 = true := by decide +kernel
theorem hs22_7 : hasL [116,105,102,98] 116 = true ∧ hasL [116,105,102,98] 105 = true ∧ hasL [116,105,102,98] 112 = false ∧ hasL [116,105,102,98] 99 = false ∧ hasL [116,105,102,98] 102 = true ∧ hasL [116,105,102,98] 111 = false ∧ hasL [116,105,102,98] 109 = false ∧ hasL [116,105,102,98] 119 = false ∧ hasL [116,105,102,98] 103 = false ∧ hasL [116,105,102,98] 107 = false ∧ hasL [116,105,102,98] 110 = false := by decide +kernel
theorem hs22_8 : hasL [116,105,111,109] 116 = true ∧ hasL [116,105,111,109] 105 = true ∧ hasL [116,105,111,109] 112 = false ∧ hasL [116,105,111,109] 99 = false ∧ hasL [116,105,111,109] 102 = false ∧ hasL [116,105,111,109] 111 = true ∧ hasL [116,105,111,109] 109 = true ∧ hasL [116,105,111,109] 119 = false ∧ hasL [116,105,111,109] 103 = false ∧ hasL [116,105,111,109] 107 = false ∧ hasL [116,105,111,109] 110 = false := by decide +kernel
theorem hs22_9 : hasL [116,105,111,103,107,110] 116 = true ∧ hasL [116,105,111,103,107,110] 105 = true ∧ hasL [116,105,111,103,107,110] 112 = false ∧ hasL [116,105,111,103,107,110] 99 = false ∧ hasL [116,105,111,103,107,110] 102 = false ∧ hasL [116,105,111,103,107,110] 111 = true ∧ hasL [116,105,111,103,107,110] 109 = false ∧ hasL [116,105,111,103,107,110] 119 = false ∧ hasL [116,105,111,103,107,110] 103 = true ∧ hasL [116,105,111,103,107,110] 107 = true ∧ hasL [116,105,111,103,107,110] 110 = true := by decide +kernel
def Sonly22 (f : FuncId) : Option zah :=
 match f with
 | 49 => some usesS
 | 72 => some hasS
 | _ => none
theorem Sonly22_ok : Fns Try.prog Sonly22 := by
 intro f s h
 unfold Sonly22 at h
 split at h
 · injection h with h; subst h; exact ⟨⟨_,Try.func49,by kernel_rfl,by kernel_rfl⟩,ruses22_sound⟩
 · injection h with h; subst h; exact ⟨⟨_,Try.func72,by kernel_rfl,by kernel_rfl⟩,has22_sound⟩
 · cases h
def only22Pl : Plan := fun id => match id with
 | 8 => some [(2,5),(3,5)]
 | 10 => some [(2,5),(3,5)]
 | _ => none
section
set_option maxRecDepth 100000
set_option maxHeartbeats 40000000 in
theorem only22_sound : zas Try.prog 47 zch := by
 refine fn_soundF (S := Sonly22) (T := ty) (pl := only22Pl) zau ty_ok Sonly22_ok Try.func47 (c := Try.f47.body.getD .skip) (by kernel_rfl) (by kernel_rfl) (fun xs pins hp _ => ?_)
 unfold zch at hp ⊢
 split at hp
 · rename_i k t i p c f o m w g mb n b1 b2 b3 b4 b5 xs fl _
   have hk : 0 ≤ k ∧ k ≤ 11 := hp
   refine ⟨by simp,?_⟩
   rcases knd_le k hk with rfl | rfl | rfl | rfl | rfl | rfl | rfl | rfl | rfl | rfl | rfl | rfl
   all_goals
     unfold Try.f47
     simp only [go_sem,coe,zar,Nat.reduceAdd,Nat.reduceSub,Nat.reduceMul,Int.reduceToNat,reduceCtorEq,↓reduceIte,Int.reducePow,Nat.reducePow,Int.reduceMod,Nat.reduceLeDiff,Int.reduceLE,Int.reduceNe,Int.reduceEq,Nat.reduceEqDiff,Nat.reduceLT,Nat.reduceBEq,List.map_cons,List.map_nil,List.toList_toArray,Array.toList_append,Option.toArray_some,Option.toArray_none,Bool.and_self,ty,Sonly22,only22Pl,usesS,zck,hasS,fillS,Int.reduceEq,Int.reduceLT,Int.reduceLE,or_self,or_false,false_or,or_true,true_or,if_true,if_false,hs22_0,hs22_1,hs22_2,hs22_3,hs22_4,hs22_5,hs22_6,hs22_7,hs22_8,hs22_9]
     refine ⟨_,Weak.refl _,?_⟩
     simp only [go_sem,coe,zar,Nat.reduceAdd,Nat.reduceSub,Nat.reduceMul,Int.reduceToNat,reduceCtorEq,↓reduceIte,Int.reducePow,Nat.reducePow,Int.reduceMod,Nat.reduceLeDiff,Int.reduceLE,Int.reduceNe,Int.reduceEq,Nat.reduceEqDiff,Nat.reduceLT,Nat.reduceBEq,List.map_cons,List.map_nil,List.toList_toArray,Array.toList_append,Option.toArray_some,Option.toArray_none,Bool.and_self,ty,onlyQ,Int.reduceEq,Int.reduceLT,Int.reduceLE,or_self,or_false,false_or,or_true,true_or,if_true,if_false]
 · exact hp.elim
end
end Go.Proofs.Ytihbcgbmlecpbaa
namespace Go.Proofs.Ytihbcgbmlecpbaa
open Ax
theorem w1 : rchk 1 5 true [107] false [118] = 0 := by decide
theorem w2 : rchk 1 5 true [107] true [] = 0 := by decide
theorem w3 : recB 1 5 true [107] false [118] = [1,2,10,2,107,2,118] := by
 simp [recB,w1,recL,zfn,zbg,putU,zz]
theorem w4 : recB 1 5 true [107] true [] = [3,2,10,2,107] := by
 simp [recB,w2,recL,zfn,zbg,putU,zz]
theorem w5 : gerr [1,2,10,2,107,2,118] 0 = 0 := by decide +kernel
theorem w6 : gd [1,2,10,2,107,2,118] 0 = 1 := by decide +kernel
theorem w7 : gt [1,2,10,2,107,2,118] 0 = 5 := by decide +kernel
theorem w8 : gk [1,2,10,2,107,2,118] 0 = true := by decide +kernel
theorem w9 : gdd [1,2,10,2,107,2,118] 0 = false := by decide +kernel
theorem w10 : gkey [1,2,10,2,107,2,118] 0 = [107] := by decide +kernel
theorem w11 : gval [1,2,10,2,107,2,118] 0 = [118] := by decide +kernel
theorem w12 : grec [1,2,10,2,107,2,118] 0 = recV 1 5 true [107] false [118] := by
 unfold grec; rw [if_pos w5,w6,w7,w8,w9,w10,w11]
section
set_option maxRecDepth 100000
set_option maxHeartbeats 1000000 in
end
end Go.Proofs.Ytihbcgbmlecpbaa
namespace Go.Proofs.Ytihbcgbmlecpbaa
open Ax
section
set_option maxRecDepth 100000
def rputPl : Plan := fun id => match id with
 | 9 => some [(5,6),(5,7)]
 | _ => none
set_option maxHeartbeats 1000000 in
theorem rrecput_sound : zas Try.prog 85 rputS := by
 refine fn_soundF (S := Srrput) (T := ty) (pl := rputPl) zau ty_ok Srrput_ok Try.func85 (c := Try.f85.body.getD .skip) (by kernel_rfl) (by kernel_rfl) (fun xs pins hp _ => ?_)
 unfold rputS at hp ⊢
 split at hp
 · rename_i d t k key dd val _
   refine ⟨by simp,?_⟩
   unfold Try.f85
   by_cases h0 : rchk d t k key dd val = 0
   · have hc := zev d t k key dd val
     unfold rA rB at hc
     have hd : (-9223372036854775808 ≤ d ∧ d ≤ 9223372036854775807) ∧ (-9223372036854775808 ≤ t ∧ t ≤ 9223372036854775807) ∧ key.length ≤ 64 ∧ val.length ≤ 512 := by omega
     obtain ⟨hd1,hd2,hd3,hd4⟩ := hd
     clear hc
     have z1 := zci d hd1.1 hd1.2
     have z2 := zci t hd2.1 hd2.2
     have l1 := zaw (zz d).toNat (by omega)
     have l2 := zaw (zz t).toNat (by omega)
     have l3 := zda key (by omega)
     have l4 := zda val (by omega)
     have k3 : key.length ≤ 1000000 := by omega
     have k4 : val.length ≤ 1000000 := by omega
     generalize hP1 : putU (zz d).toNat = P1 at *
     generalize hP2 : putU (zz t).toNat = P2 at *
     generalize hP3 : zbg key = P3 at *
     generalize hP4 : zbg val = P4 at *
     cases k <;> cases dd
     all_goals
       have f0 : zfn false false = 0 := rfl
       have f1 : zfn true false = 1 := rfl
       have f2 : zfn false true = 2 := rfl
       have f3 : zfn true true = 3 := rfl
       simp only [go_sem,coe,zar,Nat.reduceAdd,Nat.reduceSub,Nat.reduceMul,Int.reduceToNat,reduceCtorEq,↓reduceIte,Int.reducePow,Nat.reducePow,Int.reduceMod,Nat.reduceLeDiff,Int.reduceLE,Int.reduceNe,Int.reduceEq,Nat.reduceEqDiff,Nat.reduceLT,Nat.reduceBEq,List.map_cons,List.map_nil,List.toList_toArray,Array.toList_append,Option.toArray_some,Option.toArray_none,Bool.and_self,ty,Srrput,rputPl,zde,flagS,putS,zbt,h0,hd1,hd2,k3,k4,hP1,hP2,hP3,hP4,List.take_length,f0,f1,f2,f3,Int.reduceAdd]
       have ht : top = 4294967296 := rfl
       repeat (refine And.intro (by omega) ?_)
       exact put_ends rfl rfl rfl (by simp only [List.length_append,List.length_cons,List.length_nil]; omega) (by simp [recB,h0,recL,hP1,hP2,hP3,hP4,f0,f1,f2,f3]) rfl
   · have d0 : decide (rchk d t k key dd val = 0) = false := decide_eq_false h0
     simp only [go_sem,coe,zar,Nat.reduceAdd,Nat.reduceSub,Nat.reduceMul,Int.reduceToNat,reduceCtorEq,↓reduceIte,Int.reducePow,Nat.reducePow,Int.reduceMod,Nat.reduceLeDiff,Int.reduceLE,Int.reduceNe,Int.reduceEq,Nat.reduceEqDiff,Nat.reduceLT,Nat.reduceBEq,List.map_cons,List.map_nil,List.toList_toArray,Array.toList_append,Option.toArray_some,Option.toArray_none,Bool.and_self,ty,Srrput,rputPl,zde,d0]
     refine ⟨_,zcs 2 (.sb [] false) (fun _ _ _ h => h.nilb),?_⟩
     simp only [go_sem,coe,zar,Nat.reduceAdd,Nat.reduceSub,Nat.reduceMul,Int.reduceToNat,reduceCtorEq,↓reduceIte,Int.reducePow,Nat.reducePow,Int.reduceMod,Nat.reduceLeDiff,Int.reduceLE,Int.reduceNe,Int.reduceEq,Nat.reduceEqDiff,Nat.reduceLT,Nat.reduceBEq,List.map_cons,List.map_nil,List.toList_toArray,Array.toList_append,Option.toArray_some,Option.toArray_none,Bool.and_self,ty,recB,if_neg h0]
 · exact hp.elim
end
end Go.Proofs.Ytihbcgbmlecpbaa
namespace Go.Proofs.Ytihbcgbmlecpbaa
open Ax
theorem put1_ends {T : zac} {sl : List AV} {H : Heap} {nx id n : Nat} {bs rs : List UInt8} {q : Prop} (h2 : slot sl 2 = .ms id 1 0 n) (hl : Ax.look H id = some (.b bs)) (hn : n = bs.length) (hr : rs = bs) :
   EndsW T [.tmp 2] [] ⟨q,.sb rs false,[]⟩ .ret ⟨sl,H,nx⟩ := by
 subst hn hr
 have hs : slot (fzL id rs sl) 2 = .sb rs false := by
   rw [slot_fzL,h2]
   simp [AV.fz]
 refine ⟨_,(weak_fzs 2 h2 hl).trans (zcs 2 (.sb rs false) (fun w loc v h => by rwa [hs] at h)),?_⟩
 have e2 : slot (setSlot (fzL id rs sl) 2 (.sb rs false)) 2 = .sb rs false := slot_set_eq _ _ _ (by rw [hs]; simp)
 simp only [Ax.Ends,Ax.rvals,EndsX,rone,e2,AV.ids,idsL,newIds,upTo,nodup,pinsOf,List.nil_append,AV.ren,renL,and_self]
def okI (n : Int) : Prop := -9223372036854775808 ≤ n ∧ n ≤ 9223372036854775807
def rlayS4 : zah
 | [.agg [.w (.int .i64 b),.w (.int .i64 c),.w (.int .i64 p),.w (.int .i64 e),.w (.int .i64 s),.sg 6 xs f]],[] =>
     ⟨xs.length ≤ 40 ∧ okI b ∧ okI c ∧ okI p ∧ okI e ∧ okI s ∧ ∃ rs : List Rec,xs = rs.map rv,.sb (batL b c p e s (xs.map rrec)) false,[]⟩
 | _,_ => zbc
def Srlay4 (f : FuncId) : Option zah :=
 match f with
 | 26 => some putS
 | 85 => some rputS
 | _ => none
theorem Srlay4_ok : Fns Try.prog Srlay4 := by
 intro f s h
 unfold Srlay4 at h
 split at h
 · injection h with h; subst h; exact ⟨⟨_,Try.func26,by kernel_rfl,by kernel_rfl⟩,rput_sound⟩
 · injection h with h; subst h; exact ⟨⟨_,Try.func85,by kernel_rfl,by kernel_rfl⟩,rrecput_sound⟩
 · cases h
theorem headL_len : ∀ (l : List Int),(∀ x ∈ l,okI x) → (zcy l).length ≤ 10 * l.length
 | [],_ => Nat.le_refl _
 | n :: l,h => by
   have h1 := headL_len l (fun x hx => h x (List.mem_cons_of_mem _ hx))
   have h2 := h n (by simp)
   have z := zci n h2.1 h2.2
   have h3 := zaw (zz n).toNat (by omega)
   unfold zcy at h1 ⊢
   rw [List.flatMap_cons,List.length_append,List.length_cons]; omega
section
set_option maxRecDepth 100000
set_option maxHeartbeats 2000000 in
theorem rlay4_sound : zas Try.prog 74 rlayS4 := by
 refine zbj (S := Srlay4) (T := ty) zau ty_ok Srlay4_ok Try.func74 (c := Try.f74.body.getD .skip) (by kernel_rfl) (by kernel_rfl) (fun xs pins hp _ => ?_)
 unfold rlayS4 at hp ⊢
 split at hp
 · rename_i b c p e s xs f _
   obtain ⟨hL,hb,hc,hpp,he,hs,rs,rfl⟩ := hp
   have hl4 : (rs.map rv).length = rs.length := by simp
   rw [hl4] at hL
   refine ⟨by simp,?_⟩
   unfold Try.f74
   obtain ⟨L,hLL⟩ : ∃ L,nums b c p e s rs.length = L := ⟨_,rfl⟩
   have hlen : L.length = 6 := by rw [← hLL]; rfl
   have hrg : ∀ x ∈ L,okI x := by
     rw [← hLL]; unfold nums
     intro x hx
     simp only [List.mem_cons,List.not_mem_nil,or_false] at hx
     rcases hx with rfl | rfl | rfl | rfl | rfl | rfl
     · exact hb
     · exact hc
     · exact hpp
     · exact he
     · exact hs
     · unfold okI; omega
   have hL2 : [b,c,p,e,s,(rs.length : Int)] = L := hLL
   simp only [go_sem,zaa,Nat.reduceAdd,Nat.reduceSub,Nat.reduceMul,Int.reduceToNat,reduceCtorEq,↓reduceIte,Int.reducePow,Nat.reducePow,Int.reduceMod,Nat.reduceLeDiff,Int.reduceLE,Int.reduceNe,Int.reduceEq,Nat.reduceEqDiff,Nat.reduceLT,Nat.reduceBEq,ty,Srlay4,hl4,hL,hL2,zae]
   have ht : top = 4294967296 := rfl
   refine zcv ⟨fun m σ => ∃ k : Nat,m = 6 - k ∧ k ≤ 6 ∧
       σ = ⟨[.agg [.w (.int .i64 b),.w (.int .i64 c),.w (.int .i64 p),.w (.int .i64 e),.w (.int .i64 s),.sg 6 (rs.map rv) f],.rf 4 6 0 0,.junk,.ms 6 1 0 (zcy (L.take k)).length,.ms 5 1 0 6,.w (.int .i64 k),.junk,.junk,.junk,.junk,.junk,.junk,.junk,.junk,.junk,.junk,.junk,.junk,.junk,.junk,.junk,.junk,.junk,.junk,.junk,.junk,.junk,.junk,.junk,.junk,.junk,.junk,.junk,.junk,.junk,.junk,.junk,.junk,.junk,.junk,.junk,.junk,.junk,.junk,.junk,.junk,.junk,.junk,.junk,.junk,.junk,.junk,.junk,.junk,.junk,.junk],[(4,.g 6 [.agg [.w (.int .i64 b),.w (.int .i64 c),.w (.int .i64 p),.w (.int .i64 e),.w (.int .i64 s),.sg 6 (rs.map rv) f]]),(5,.i L),(6,.b (zcy (L.take k)))],7⟩,?_,?_⟩
   · refine ⟨_,_,(zem 3 1 (.b []) rfl (by exact trivial)).trans (zag [0,1,2,3,4,132,156] rfl rfl rfl ?_ ?_),0,rfl,by omega,rfl⟩
     · simp only [ssT,zai,zaj,setSlot,gOf,AV.ren,renL,Blk.ren,Ax.look,Ax.put,reduceCtorEq,↓reduceIte,Nat.reduceEqDiff,Nat.reduceLT,Nat.reduceAdd,List.length_append,List.length_cons,List.length_nil,Option.some.injEq]; first | exact ⟨by simp [zcy],rfl,rfl⟩ | (simp [zcy]; done)
     · simp only [ssT,zai,zaj,setSlot,gOf,AV.ren,renL,Blk.ren,Ax.look,Ax.put,reduceCtorEq,↓reduceIte,Nat.reduceEqDiff,Nat.reduceLT,Nat.reduceAdd,List.length_append,List.length_cons,List.length_nil,Option.some.injEq]; rfl
   · rintro m σ ⟨k,rfl,hk,rfl⟩
     have e1 : ((k : Int) + 1 + 9223372036854775808) % 18446744073709551616 - 9223372036854775808 = ((k + 1 : Nat) : Int) := by omega
     by_cases hk6 : k < 6
     · have d1 : decide ((k : Int) < ((6 : Nat) : Int)) = true := decide_eq_true (by omega)
       have hkl : k < L.length := by omega
       obtain ⟨N,hN⟩ : ∃ N,L.getD k 0 = N := ⟨_,rfl⟩
       have hNe : L[k] = N := by rw [← hN]; simp [hkl]
       obtain ⟨hN1,hN2⟩ := hrg N (hNe ▸ List.getElem_mem hkl)
       have z := zci N hN1 hN2
       have hPl := zaw (zz N).toNat (by omega)
       have hsn : zcy (L.take (k + 1)) = zcy (L.take k) ++ putU (zz N).toNat := by
         rw [List.take_succ_eq_append_getElem hkl,headL_snoc,hNe]
       have hhl := headL_len (L.take k) (fun x hx => hrg x (List.mem_of_mem_take hx))
       rw [List.length_take] at hhl
       obtain ⟨P,hP⟩ : ∃ P,putU (zz N).toNat = P := ⟨_,rfl⟩
       rw [hP] at hsn hPl
       simp only [go_sem,zaa,Nat.reduceAdd,Nat.reduceSub,Nat.reduceMul,Int.reduceToNat,reduceCtorEq,↓reduceIte,Int.reducePow,Nat.reducePow,Int.reduceMod,Nat.reduceLeDiff,Int.reduceLE,Int.reduceNe,Int.reduceEq,Nat.reduceEqDiff,Nat.reduceLT,Nat.reduceBEq,ty,Srlay4,putS,d1,hN,hP,hN1,hN2,e1,hlen,List.take_length,Int.toNat_natCast,Nat.zero_add]
       repeat (refine And.intro (by omega) ?_)
       refine ⟨6 - (k + 1),_,by omega,zag [0,1,2,3,4,5,87] rfl rfl rfl ?_ ?_,k + 1,rfl,by omega,rfl⟩
       · simp only [ssT,zai,zaj,setSlot,gOf,AV.ren,renL,Blk.ren,Ax.look,Ax.put,reduceCtorEq,↓reduceIte,Nat.reduceEqDiff,Nat.reduceLT,Nat.reduceAdd,List.length_append,List.length_cons,List.length_nil,Option.some.injEq,hsn,List.length_append]
       · simp only [ssT,zai,zaj,setSlot,gOf,AV.ren,renL,Blk.ren,Ax.look,Ax.put,reduceCtorEq,↓reduceIte,Nat.reduceEqDiff,Nat.reduceLT,Nat.reduceAdd,List.length_append,List.length_cons,List.length_nil,Option.some.injEq,hsn]
     · have d1 : decide ((k : Int) < ((6 : Nat) : Int)) = false := decide_eq_false (by omega)
       have hk2 : L.take k = L := List.take_of_length_le (by omega)
       have hHl := headL_len L hrg
       simp only [go_sem,zaa,Nat.reduceAdd,Nat.reduceSub,Nat.reduceMul,Int.reduceToNat,reduceCtorEq,↓reduceIte,Int.reducePow,Nat.reducePow,Int.reduceMod,Nat.reduceLeDiff,Int.reduceLE,Int.reduceNe,Int.reduceEq,Nat.reduceEqDiff,Nat.reduceLT,Nat.reduceBEq,ty,Srlay4,d1,hk2]
       refine zcv ⟨fun m σ => ∃ i : Nat,m = rs.length - i ∧ i ≤ rs.length ∧
           σ = ⟨[.agg [.w (.int .i64 b),.w (.int .i64 c),.w (.int .i64 p),.w (.int .i64 e),.w (.int .i64 s),.sg 6 (rs.map rv) f],.rf 4 6 0 0,.junk,.ms 5 1 0 (zcy L ++ (rs.take i).flatMap rb).length,.junk,.junk,.w (.int .i64 i),.junk,.junk,.junk,.junk,.junk,.junk,.junk,.junk,.junk,.junk,.junk,.junk,.junk,.junk,.junk,.junk,.junk,.junk,.junk,.junk,.junk,.junk,.junk,.junk,.junk,.junk,.junk,.junk,.junk,.junk,.junk,.junk,.junk,.junk,.junk,.junk,.junk,.junk,.junk,.junk,.junk,.junk,.junk,.junk,.junk,.junk,.junk,.junk,.junk],[(4,.g 6 [.agg [.w (.int .i64 b),.w (.int .i64 c),.w (.int .i64 p),.w (.int .i64 e),.w (.int .i64 s),.sg 6 (rs.map rv) f]]),(5,.b (zcy L ++ (rs.take i).flatMap rb))],6⟩,?_,?_⟩
       · refine ⟨_,_,zag [0,1,2,3,4,6] rfl rfl rfl ?_ ?_,0,rfl,by omega,rfl⟩
         · simp only [ssT,zai,zaj,setSlot,gOf,AV.ren,renL,Blk.ren,Ax.look,Ax.put,reduceCtorEq,↓reduceIte,Nat.reduceEqDiff,Nat.reduceLT,Nat.reduceAdd,List.length_append,List.length_cons,List.length_nil,Option.some.injEq]; simp
         · simp only [ssT,zai,zaj,setSlot,gOf,AV.ren,renL,Blk.ren,Ax.look,Ax.put,reduceCtorEq,↓reduceIte,Nat.reduceEqDiff,Nat.reduceLT,Nat.reduceAdd,List.length_append,List.length_cons,List.length_nil,Option.some.injEq]; simp
       · rintro m σ ⟨i,rfl,hi,rfl⟩
         have e2 : ((i : Int) + 1 + 9223372036854775808) % 18446744073709551616 - 9223372036854775808 = ((i + 1 : Nat) : Int) := by omega
         have hbl := rbs_length (rs.take i)
         rw [List.length_take] at hbl
         obtain ⟨O,hO⟩ : ∃ O,zcy L ++ (rs.take i).flatMap rb = O := ⟨_,rfl⟩
         have hOl : O.length ≤ 60 + 700 * 40 := by rw [← hO,List.length_append]; omega
         by_cases hil : i < rs.length
         · have d3 : decide ((i : Int) < rs.length) = true := decide_eq_true (by omega)
           have hsl := zdj rv rs i hil
           have htk : (rs.take (i + 1)).flatMap rb = (rs.take i).flatMap rb ++ rb rs[i] := by
             rw [List.take_succ_eq_append_getElem hil,List.flatMap_append,List.flatMap_cons,List.flatMap_nil,List.append_nil]
           obtain ⟨R,hR⟩ : ∃ R,rs[i] = R := ⟨_,rfl⟩
           rw [hR] at hsl htk
           simp only [rv] at hsl
           have hRl := rb_length R
           have hrb : recB R.d R.t R.k R.key R.dd R.val = rb R := rfl
           have htk2 : zcy L ++ (rs.take (i + 1)).flatMap rb = O ++ rb R := by rw [htk,← hO,List.append_assoc]
           have hln2 : (zcy L).length + ((rs.take (i + 1)).flatMap rb).length = O.length + (rb R).length := by rw [← List.length_append,htk2,List.length_append]
           simp only [go_sem,zaa,Nat.reduceAdd,Nat.reduceSub,Nat.reduceMul,Int.reduceToNat,reduceCtorEq,↓reduceIte,Int.reducePow,Nat.reducePow,Int.reduceMod,Nat.reduceLeDiff,Int.reduceLE,Int.reduceNe,Int.reduceEq,Nat.reduceEqDiff,Nat.reduceLT,Nat.reduceBEq,ty,Srlay4,rputS,hrb,hO,hl4,d3,hsl,e2,List.take_length,Int.toNat_natCast]
           repeat (refine And.intro (by omega) ?_)
           refine ⟨rs.length - (i + 1),_,by omega,zag [0,1,2,3,4,150] rfl rfl rfl ?_ ?_,i + 1,rfl,by omega,rfl⟩
           · simp only [ssT,zai,zaj,setSlot,gOf,AV.ren,renL,Blk.ren,Ax.look,Ax.put,reduceCtorEq,↓reduceIte,Nat.reduceEqDiff,Nat.reduceLT,Nat.reduceAdd,List.length_append,List.length_cons,List.length_nil,Option.some.injEq,htk2,List.length_append,hln2]
           · simp only [ssT,zai,zaj,setSlot,gOf,AV.ren,renL,Blk.ren,Ax.look,Ax.put,reduceCtorEq,↓reduceIte,Nat.reduceEqDiff,Nat.reduceLT,Nat.reduceAdd,List.length_append,List.length_cons,List.length_nil,Option.some.injEq,htk2]
         · have d3 : decide ((i : Int) < rs.length) = false := decide_eq_false (by omega)
           have htk : rs.take i = rs := List.take_of_length_le (by omega)
           have hOe : batL b c p e s rs = O := by unfold batL; rw [hLL,← hO,htk]
           simp only [go_sem,zaa,Nat.reduceAdd,Nat.reduceSub,Nat.reduceMul,Int.reduceToNat,reduceCtorEq,↓reduceIte,Int.reducePow,Nat.reducePow,Int.reduceMod,Nat.reduceLeDiff,Int.reduceLE,Int.reduceNe,Int.reduceEq,Nat.reduceEqDiff,Nat.reduceLT,Nat.reduceBEq,ty,Srlay4,hO,hl4,d3,zae,hOe]
           exact put1_ends rfl rfl rfl rfl
 · exact hp.elim
end
end Go.Proofs.Ytihbcgbmlecpbaa
namespace Go.Proofs.Ytihbcgbmlecpbaa
open Ax
theorem fld_cases (b c p e s n : Int) :
   (decide (c < 1) = true ∧ bfld b c p e s n = 11) ∨
   (decide (c < 1) = false ∧ decide (32 < c) = true ∧ bfld b c p e s n = 11) ∨
   (decide (c < 1) = false ∧ decide (32 < c) = false ∧ decide (b < 0) = true ∧ bfld b c p e s n = 11) ∨
   (decide (c < 1) = false ∧ decide (32 < c) = false ∧ (4611686018427387903 - c + 9223372036854775808) % 18446744073709551616 - 9223372036854775808 = 4611686018427387903 - c ∧ decide (b < 0) = false ∧ decide (4611686018427387903 - c < b) = true ∧ bfld b c p e s n = 11) ∨
   (decide (c < 1) = false ∧ decide (32 < c) = false ∧ (4611686018427387903 - c + 9223372036854775808) % 18446744073709551616 - 9223372036854775808 = 4611686018427387903 - c ∧ decide (b < 0) = false ∧ decide (4611686018427387903 - c < b) = false ∧
     ((decide (p < 0) = true ∧ bfld b c p e s n = 11) ∨
      (decide (p < 0) = false ∧ decide (1099511627776 < p) = true ∧ bfld b c p e s n = 11) ∨
      (decide (p < 0) = false ∧ decide (1099511627776 < p) = false ∧ decide (e < 0) = true ∧ bfld b c p e s n = 11) ∨
      (decide (p < 0) = false ∧ decide (1099511627776 < p) = false ∧ decide (e < 0) = false ∧ decide (32767 < e) = true ∧ bfld b c p e s n = 11) ∨
      (decide (p < 0) = false ∧ decide (1099511627776 < p) = false ∧ decide (e < 0) = false ∧ decide (32767 < e) = false ∧ decide (s < 0) = true ∧ bfld b c p e s n = 11) ∨
      (decide (p < 0) = false ∧ decide (1099511627776 < p) = false ∧ decide (e < 0) = false ∧ decide (32767 < e) = false ∧ decide (s < 0) = false ∧ decide (2147483647 < s) = true ∧ bfld b c p e s n = 11) ∨
      (decide (p < 0) = false ∧ decide (1099511627776 < p) = false ∧ decide (e < 0) = false ∧ decide (32767 < e) = false ∧ decide (s < 0) = false ∧ decide (2147483647 < s) = false ∧
       ((decide (p = 0) = true ∧ decide (e = 0) = false ∧ bfld b c p e s n = 4) ∨
        (decide (p = 0) = true ∧ decide (e = 0) = true ∧ decide (s = 0) = false ∧ bfld b c p e s n = 4) ∨
        (decide (p = 0) = true ∧ decide (e = 0) = true ∧ decide (s = 0) = true ∧ decide (c < n) = true ∧ bfld b c p e s n = 5) ∨
        (decide (p = 0) = false ∧ decide (c < n) = true ∧ bfld b c p e s n = 5) ∨
        (decide (p = 0) = true ∧ decide (e = 0) = true ∧ decide (s = 0) = true ∧ decide (c < n) = false ∧ bfld b c p e s n = 0) ∨
        (decide (p = 0) = false ∧ decide (c < n) = false ∧ bfld b c p e s n = 0))))) := by
 unfold bfld
 simp only [decide_eq_true_eq,decide_eq_false_iff_not]
 by_cases h0 : c < 1
 · exact .inl ⟨h0,if_pos (by omega)⟩
 by_cases h1 : 32 < c
 · exact .inr (.inl ⟨h0,h1,if_pos (by omega)⟩)
 by_cases h2 : b < 0
 · exact .inr (.inr (.inl ⟨h0,h1,h2,if_pos (by omega)⟩))
 by_cases h3 : 4611686018427387903 - c < b
 · exact .inr (.inr (.inr (.inl ⟨h0,h1,by omega,h2,h3,if_pos (by omega)⟩)))
 refine .inr (.inr (.inr (.inr ⟨h0,h1,by omega,h2,h3,?_⟩)))
 by_cases h4 : p < 0
 · exact .inl ⟨h4,if_pos (by omega)⟩
 by_cases h5 : 1099511627776 < p
 · exact .inr (.inl ⟨h4,h5,if_pos (by omega)⟩)
 by_cases h6 : e < 0
 · exact .inr (.inr (.inl ⟨h4,h5,h6,if_pos (by omega)⟩))
 by_cases h7 : 32767 < e
 · exact .inr (.inr (.inr (.inl ⟨h4,h5,h6,h7,if_pos (by omega)⟩)))
 by_cases h8 : s < 0
 · exact .inr (.inr (.inr (.inr (.inl ⟨h4,h5,h6,h7,h8,if_pos (by omega)⟩))))
 by_cases h9 : 2147483647 < s
 · exact .inr (.inr (.inr (.inr (.inr (.inl ⟨h4,h5,h6,h7,h8,h9,if_pos (by omega)⟩)))))
 refine .inr (.inr (.inr (.inr (.inr (.inr ⟨h4,h5,h6,h7,h8,h9,?_⟩)))))
 rw [if_neg (by omega)]
 by_cases hp : p = 0
 · by_cases he : e = 0
   · by_cases hs : s = 0
     · by_cases hc : c < n
       · exact .inr (.inr (.inl ⟨hp,he,hs,hc,by rw [if_neg (by omega),if_pos hc]⟩))
       · exact .inr (.inr (.inr (.inr (.inl ⟨hp,he,hs,hc,by rw [if_neg (by omega),if_neg hc]⟩))))
     · exact .inr (.inl ⟨hp,he,hs,if_pos (by omega)⟩)
   · exact .inl ⟨hp,he,if_pos (by omega)⟩
 · by_cases hc : c < n
   · exact .inr (.inr (.inr (.inl ⟨hp,hc,by rw [if_neg (by omega),if_pos hc]⟩)))
   · exact .inr (.inr (.inr (.inr (.inr ⟨hp,hc,by rw [if_neg (by omega),if_neg hc]⟩))))
def rchkS4 : zah
 | [.agg [.w (.int .i64 b),.w (.int .i64 c),.w (.int .i64 p),.w (.int .i64 e),.w (.int .i64 s),.sg 6 xs f]],[] =>
     ⟨xs.length ≤ 40 ∧ ∃ rs : List Rec,xs = rs.map rv,.w (.int .i64 (batE b c p e s (xs.map rrec))),[]⟩
 | _,_ => zbc
def rputS4 : zah
 | [.agg [.w (.int .i64 b),.w (.int .i64 c),.w (.int .i64 p),.w (.int .i64 e),.w (.int .i64 s),.sg 6 xs f]],[] => ⟨xs.length ≤ 40 ∧ ∃ rs : List Rec,xs = rs.map rv,
     .tup [.sb (batB b c p e s (xs.map rrec)) false,.w (.int .i64 (batE b c p e s (xs.map rrec)))],[]⟩
 | _,_ => zbc
theorem batE_eq (b c p e s : Int) (rs : List Rec) (h : bfld b c p e s rs.length ≠ 0) : batE b c p e s rs = bfld b c p e s rs.length := if_neg h
def Srchk4 (f : FuncId) : Option zah :=
 match f with
 | 74 => some rlayS4
 | 84 => some zde
 | _ => none
theorem Srchk4_ok : Fns Try.prog Srchk4 := by
 intro f s h
 unfold Srchk4 at h
 split at h
 · injection h with h; subst h; exact ⟨⟨_,Try.func74,by kernel_rfl,by kernel_rfl⟩,rlay4_sound⟩
 · injection h with h; subst h; exact ⟨⟨_,Try.func84,by kernel_rfl,by kernel_rfl⟩,rrcheck_sound⟩
 · cases h
section
set_option maxRecDepth 100000
set_option maxHeartbeats 4000000 in
theorem rchk4_sound : zas Try.prog 73 rchkS4 := by
 refine zam (S := Srchk4) (T := ty) zau ty_ok Srchk4_ok Try.func73 (c := Try.f73.body.getD .skip) (by kernel_rfl) (by kernel_rfl) (fun xs pins hp _ => ?_)
 unfold rchkS4 at hp ⊢
 split at hp
 · rename_i b c p e s xs f _
   obtain ⟨hL,rs,rfl⟩ := hp
   have hl4 : (rs.map rv).length = rs.length := by simp
   rw [hl4] at hL
   refine ⟨by simp,?_⟩
   unfold Try.f73
   have hE := batE_eq b c p e s rs
   have n1 : ((11 : Int) ≠ 0) = True := by decide
   have n2 : ((4 : Int) ≠ 0) = True := by decide
   have n3 : ((5 : Int) ≠ 0) = True := by decide
   rcases fld_cases b c p e s rs.length with D | D | D | D | ⟨a0,a1,a2,a3,a4,D | D | D | D | D | D | ⟨a5,a6,a7,a8,a9,a10,D | D | D | D | D | D⟩⟩
   all_goals simp only [go_sem,zaa,Nat.reduceAdd,Nat.reduceSub,Nat.reduceMul,Int.reduceToNat,reduceCtorEq,↓reduceIte,Int.reducePow,Nat.reducePow,Int.reduceMod,Nat.reduceLeDiff,Int.reduceLE,Int.reduceNe,Int.reduceEq,Nat.reduceEqDiff,Nat.reduceLT,Nat.reduceBEq,ty,Srchk4,hl4,zae, *]
   all_goals
     have hF : bfld b c p e s rs.length = 0 := by simp only [D]
     have hz := bfld_zero hF
     clear D hE n1 n2 n3
     refine zcv ⟨fun m σ => ∃ (i : Nat) (a : Int),m = rs.length - i ∧ i ≤ rs.length ∧ layE c (-1) rs = layE c a (rs.drop i) ∧
         σ = ⟨[.agg [.w (.int .i64 b),.w (.int .i64 c),.w (.int .i64 p),.w (.int .i64 e),.w (.int .i64 s),.sg 6 (rs.map rv) f],.rf 4 6 0 0,.junk,.w (.int .i64 a),.w (.int .i64 i),.junk,.junk,.junk,.junk,.junk,.junk,.junk,.junk,.junk,.junk,.junk,.junk,.junk,.junk,.junk,.junk,.junk,.junk,.junk,.junk,.junk,.junk,.junk,.junk,.junk,.junk,.junk,.junk,.junk,.junk,.junk,.junk,.junk,.junk,.junk,.junk,.junk,.junk,.junk,.junk,.junk,.junk,.junk,.junk,.junk,.junk,.junk,.junk,.junk,.junk,.junk,.junk,.junk,.junk,.junk,.junk,.junk,.junk,.junk,.junk,.junk,.junk,.junk,.junk,.junk,.junk,.junk,.junk,.junk,.junk,.junk,.junk,.junk,.junk,.junk,.junk,.junk,.junk,.junk,.junk,.junk,.junk,.junk,.junk,.junk,.junk,.junk,.junk,.junk,.junk,.junk,.junk,.junk,.junk,.junk,.junk,.junk,.junk,.junk,.junk,.junk,.junk,.junk,.junk,.junk,.junk,.junk,.junk,.junk,.junk,.junk,.junk,.junk,.junk,.junk,.junk,.junk,.junk,.junk,.junk],[(4,.g 6 [.agg [.w (.int .i64 b),.w (.int .i64 c),.w (.int .i64 p),.w (.int .i64 e),.w (.int .i64 s),.sg 6 (rs.map rv) f]])],5⟩,?_,?_⟩
     · refine ⟨_,_,zag [0,1,2,3,4] rfl rfl rfl ?_ ?_,0,-1,rfl,by omega,by rw [List.drop_zero],rfl⟩
       · simp only [ssT,zai,zaj,setSlot,gOf,AV.ren,renL,Blk.ren,Ax.look,Ax.put,reduceCtorEq,↓reduceIte,Nat.reduceEqDiff,Nat.reduceLT,Nat.reduceAdd,List.length_append,List.length_cons,List.length_nil,Option.some.injEq]; try simp
       · simp only [ssT,zai,zaj,setSlot,gOf,AV.ren,renL,Blk.ren,Ax.look,Ax.put,reduceCtorEq,↓reduceIte,Nat.reduceEqDiff,Nat.reduceLT,Nat.reduceAdd,List.length_append,List.length_cons,List.length_nil,Option.some.injEq]
     · rintro m σ ⟨i,a,rfl,hi,hinv,rfl⟩
       have e2 : ((i : Int) + 1 + 9223372036854775808) % 18446744073709551616 - 9223372036854775808 = ((i + 1 : Nat) : Int) := by omega
       by_cases hil : i < rs.length
       · have d3 : decide ((i : Int) < rs.length) = true := decide_eq_true (by omega)
         have hsl := zdj rv rs i hil
         have hdr : rs.drop i = rs[i] :: rs.drop (i + 1) := List.drop_eq_getElem_cons hil
         obtain ⟨R,hR⟩ : ∃ R,rs[i] = R := ⟨_,rfl⟩
         rw [hR] at hsl hdr
         simp only [rv] at hsl
         rw [hdr,layE_cons] at hinv
         have hrk : rchk R.d R.t R.k R.key R.dd R.val = rk R := rfl
         have hLE : ∀ v,v ≠ 0 → layE c (-1) rs = v → batE b c p e s rs = v := fun v h1 h2 => by unfold batE; rw [if_pos hF,if_neg (by rw [h2]; exact h1),h2]
         by_cases hk0 : rk R = 0
         · have d4 : decide (rk R = 0) = true := decide_eq_true hk0
           rw [if_pos hk0] at hinv
           have hor : (decide (R.d ≤ a) = true ∧ batE b c p e s rs = 16) ∨ (decide (R.d ≤ a) = false ∧ decide (c ≤ R.d) = true ∧ batE b c p e s rs = 16) ∨ (decide (R.d ≤ a) = false ∧ decide (c ≤ R.d) = false ∧ layE c (-1) rs = layE c R.d (rs.drop (i + 1))) := by
             by_cases hA : R.d ≤ a
             · rw [if_pos (.inl hA)] at hinv
               exact .inl ⟨decide_eq_true hA,hLE 16 (by decide) hinv⟩
             · by_cases hC : c ≤ R.d
               · rw [if_pos (.inr hC)] at hinv
                 exact .inr (.inl ⟨decide_eq_false hA,decide_eq_true hC,hLE 16 (by decide) hinv⟩)
               · rw [if_neg (by omega)] at hinv
                 exact .inr (.inr ⟨decide_eq_false hA,decide_eq_false hC,hinv⟩)
           clear hinv
           rcases hor with D | D | D
           all_goals simp only [go_sem,zaa,Nat.reduceAdd,Nat.reduceSub,Nat.reduceMul,Int.reduceToNat,reduceCtorEq,↓reduceIte,Int.reducePow,Nat.reducePow,Int.reduceMod,Nat.reduceLeDiff,Int.reduceLE,Int.reduceNe,Int.reduceEq,Nat.reduceEqDiff,Nat.reduceLT,Nat.reduceBEq,ty,Srchk4,zde,hrk,hl4,d3,hsl,d4,e2,zae,Int.toNat_natCast,D]
           all_goals repeat (refine And.intro (by omega) ?_)
           all_goals try omega
           refine ⟨rs.length - (i + 1),_,by omega,zag [0,1,2,3,4] rfl rfl rfl ?_ ?_,i + 1,R.d,rfl,by omega,rfl,rfl⟩
           · simp only [ssT,zai,zaj,setSlot,gOf,AV.ren,renL,Blk.ren,Ax.look,Ax.put,reduceCtorEq,↓reduceIte,Nat.reduceEqDiff,Nat.reduceLT,Nat.reduceAdd,List.length_append,List.length_cons,List.length_nil,Option.some.injEq]
           · simp only [ssT,zai,zaj,setSlot,gOf,AV.ren,renL,Blk.ren,Ax.look,Ax.put,reduceCtorEq,↓reduceIte,Nat.reduceEqDiff,Nat.reduceLT,Nat.reduceAdd,List.length_append,List.length_cons,List.length_nil,Option.some.injEq]
         · have d4 : decide (rk R = 0) = false := decide_eq_false hk0
           rw [if_neg hk0] at hinv
           have hB := hLE _ hk0 hinv
           simp only [go_sem,zaa,Nat.reduceAdd,Nat.reduceSub,Nat.reduceMul,Int.reduceToNat,reduceCtorEq,↓reduceIte,Int.reducePow,Nat.reducePow,Int.reduceMod,Nat.reduceLeDiff,Int.reduceLE,Int.reduceNe,Int.reduceEq,Nat.reduceEqDiff,Nat.reduceLT,Nat.reduceBEq,ty,Srchk4,zde,hrk,hl4,d3,hsl,d4,hB,zae,Int.toNat_natCast]
           omega
       · have d3 : decide ((i : Int) < rs.length) = false := decide_eq_false (by omega)
         have hdr : rs.drop i = [] := List.drop_eq_nil_of_le (by omega)
         rw [hdr] at hinv
         have hl0 : layE c (-1) rs = 0 := hinv
         have o1 : okI b := by unfold okI; omega
         have o2 : okI c := by unfold okI; omega
         have o3 : okI p := by unfold okI; omega
         have o4 : okI e := by unfold okI; omega
         have o5 : okI s := by unfold okI; omega
         have hex : ∃ qs : List Rec,rs.map rv = qs.map rv := ⟨rs,rfl⟩
         have hor : (decide ((8192 : Int) < (batL b c p e s rs).length) = true ∧ batE b c p e s rs = 5) ∨ (decide ((8192 : Int) < (batL b c p e s rs).length) = false ∧ batE b c p e s rs = 0) := by
           by_cases h8 : 8192 < (batL b c p e s rs).length
           · exact .inl ⟨decide_eq_true (by omega),by unfold batE; rw [if_pos hF,if_pos hl0,if_pos h8]⟩
           · exact .inr ⟨decide_eq_false (by omega),by unfold batE; rw [if_pos hF,if_pos hl0,if_neg h8]⟩
         rcases hor with ⟨d4,hB⟩ | ⟨d4,hB⟩
         all_goals simp only [go_sem,zaa,Nat.reduceAdd,Nat.reduceSub,Nat.reduceMul,Int.reduceToNat,reduceCtorEq,↓reduceIte,Int.reducePow,Nat.reducePow,Int.reduceMod,Nat.reduceLeDiff,Int.reduceLE,Int.reduceNe,Int.reduceEq,Nat.reduceEqDiff,Nat.reduceLT,Nat.reduceBEq,ty,Srchk4,rlayS4,hl4,hL,d3,d4,hB,hex,o1,o2,o3,o4,o5,zae]
 · exact hp.elim
end
end Go.Proofs.Ytihbcgbmlecpbaa
namespace Go.Proofs.Ytihbcgbmlecpbaa
open Ax
def sallS : zah
 | [.sg 6 xs f,.sg 6 ys g],[] => ⟨(xs.length ≤ 9223372036854775807 ∧ ∃ rs : List Rec,xs = rs.map rv) ∧ ys.length ≤ 9223372036854775807 ∧ ∃ qs : List Rec,ys = qs.map rv,
     .w (.bool (decide (xs.map rrec = ys.map rrec))),[]⟩
 | _,_ => zbc
theorem same_cases (b c p e s : Int) (rs : List Rec) (b' c' p' e' s' : Int) (qs : List Rec) :
   (decide (b = b') = false ∧ zbq b c p e s rs b' c' p' e' s' qs = false) ∨
   (decide (b = b') = true ∧ decide (c = c') = false ∧ zbq b c p e s rs b' c' p' e' s' qs = false) ∨
   (decide (b = b') = true ∧ decide (c = c') = true ∧ decide (p = p') = false ∧ zbq b c p e s rs b' c' p' e' s' qs = false) ∨
   (decide (b = b') = true ∧ decide (c = c') = true ∧ decide (p = p') = true ∧ decide (e = e') = false ∧ zbq b c p e s rs b' c' p' e' s' qs = false) ∨
   (decide (b = b') = true ∧ decide (c = c') = true ∧ decide (p = p') = true ∧ decide (e = e') = true ∧ decide (s = s') = false ∧ zbq b c p e s rs b' c' p' e' s' qs = false) ∨
   (decide (b = b') = true ∧ decide (c = c') = true ∧ decide (p = p') = true ∧ decide (e = e') = true ∧ decide (s = s') = true ∧ zbq b c p e s rs b' c' p' e' s' qs = decide (rs = qs)) := by
 unfold zbq
 by_cases h1 : b = b' <;> by_cases h2 : c = c' <;> by_cases h3 : p = p' <;> by_cases h4 : e = e' <;> by_cases h5 : s = s' <;> simp [h1,h2,h3,h4,h5]
def Srput4 (f : FuncId) : Option zah :=
 match f with
 | 73 => some rchkS4
 | 74 => some rlayS4
 | _ => none
theorem Srput4_ok : Fns Try.prog Srput4 := by
 intro f s h
 unfold Srput4 at h
 split at h
 · injection h with h; subst h; exact ⟨⟨_,Try.func73,by kernel_rfl,by kernel_rfl⟩,rchk4_sound⟩
 · injection h with h; subst h; exact ⟨⟨_,Try.func74,by kernel_rfl,by kernel_rfl⟩,rlay4_sound⟩
 · cases h
def Ssall (f : FuncId) : Option zah :=
 match f with
 | 86 => some rsameS
 | _ => none
theorem Ssall_ok : Fns Try.prog Ssall := by
 intro f s h
 unfold Ssall at h
 split at h
 · injection h with h; subst h; exact ⟨⟨_,Try.func86,by kernel_rfl,by kernel_rfl⟩,rrsame_sound⟩
 · cases h
section
set_option maxRecDepth 100000
set_option maxHeartbeats 1000000 in
theorem rput4_sound : zas Try.prog 48 rputS4 := by
 refine zbj (S := Srput4) (T := ty) zau ty_ok Srput4_ok Try.func48 (c := Try.f48.body.getD .skip) (by kernel_rfl) (by kernel_rfl) (fun xs pins hp _ => ?_)
 unfold rputS4 at hp ⊢
 split at hp
 · rename_i b c p e s xs f _
   obtain ⟨hL,rs,rfl⟩ := hp
   have hl4 : (rs.map rv).length = rs.length := by simp
   rw [hl4] at hL
   have hex : ∃ qs : List Rec,rs.map rv = qs.map rv := ⟨rs,rfl⟩
   refine ⟨by simp,?_⟩
   unfold Try.f48
   by_cases h0 : batE b c p e s rs = 0
   · have hF : bfld b c p e s rs.length = 0 := Classical.byContradiction fun h => h ((batE_eq b c p e s rs h).symm.trans h0)
     have hz := bfld_zero hF
     have o1 : okI b := by unfold okI; omega
     have o2 : okI c := by unfold okI; omega
     have o3 : okI p := by unfold okI; omega
     have o4 : okI e := by unfold okI; omega
     have o5 : okI s := by unfold okI; omega
     have hB : batB b c p e s rs = batL b c p e s rs := if_pos h0
     simp only [go_sem,zaa,Nat.reduceAdd,Nat.reduceSub,Nat.reduceMul,Int.reduceToNat,reduceCtorEq,↓reduceIte,Int.reducePow,Nat.reducePow,Int.reduceMod,Nat.reduceLeDiff,Int.reduceLE,Int.reduceNe,Int.reduceEq,Nat.reduceEqDiff,Nat.reduceLT,Nat.reduceBEq,ty,Srput4,rchkS4,rlayS4,hl4,hL,hex,zae,h0,hB,o1,o2,o3,o4,o5]
     refine ⟨_,Weak.refl _,?_⟩
     simp only [go_sem,coe,zaa,Nat.reduceAdd,Nat.reduceSub,Nat.reduceMul,Int.reduceToNat,reduceCtorEq,↓reduceIte,Int.reducePow,Nat.reducePow,Int.reduceMod,Nat.reduceLeDiff,Int.reduceLE,Int.reduceNe,Int.reduceEq,Nat.reduceEqDiff,Nat.reduceLT,Nat.reduceBEq,ty]
   · have d0 : decide (batE b c p e s rs = 0) = false := decide_eq_false h0
     have hB : batB b c p e s rs = [] := if_neg h0
     simp only [go_sem,zaa,Nat.reduceAdd,Nat.reduceSub,Nat.reduceMul,Int.reduceToNat,reduceCtorEq,↓reduceIte,Int.reducePow,Nat.reducePow,Int.reduceMod,Nat.reduceLeDiff,Int.reduceLE,Int.reduceNe,Int.reduceEq,Nat.reduceEqDiff,Nat.reduceLT,Nat.reduceBEq,ty,Srput4,rchkS4,hl4,hL,hex,zae,d0,hB]
     refine ⟨_,zcs 2 (.sb [] false) (fun _ _ _ h => h.nilb),?_⟩
     simp only [go_sem,coe,zaa,Nat.reduceAdd,Nat.reduceSub,Nat.reduceMul,Int.reduceToNat,reduceCtorEq,↓reduceIte,Int.reducePow,Nat.reducePow,Int.reduceMod,Nat.reduceLeDiff,Int.reduceLE,Int.reduceNe,Int.reduceEq,Nat.reduceEqDiff,Nat.reduceLT,Nat.reduceBEq,ty]
 · exact hp.elim
set_option maxHeartbeats 1000000 in
theorem sall_sound : zas Try.prog 77 sallS := by
 refine zam (S := Ssall) (T := tyF) zau tyF_ok Ssall_ok Try.func77 (c := Try.f77.body.getD .skip) (by kernel_rfl) (by kernel_rfl) (fun xs pins hp _ => ?_)
 unfold sallS at hp ⊢
 split at hp
 · rename_i xs f ys g _
   obtain ⟨⟨hL1,rs,rfl⟩,hL2,qs,rfl⟩ := hp
   rw [List.length_map] at hL1 hL2
   refine ⟨by simp,?_⟩
   have hlp : (rs.map rv).length = rs.length := by simp
   have hlq : (qs.map rv).length = qs.length := by simp
   unfold Try.f77
   by_cases hl : rs.length = qs.length
   · have d0 : decide ((rs.length : Int) = qs.length) = true := decide_eq_true (by omega)
     have hk : rs = qs ↔ ∀ j (h : j < rs.length) (h' : j < qs.length),rs[j] = qs[j] := ⟨fun h => by subst h; intros; rfl,fun h => List.ext_getElem hl h⟩
     simp only [go_sem,zaa,Nat.reduceAdd,Nat.reduceSub,Nat.reduceMul,Int.reduceToNat,reduceCtorEq,↓reduceIte,Int.reducePow,Nat.reducePow,Int.reduceMod,Nat.reduceLeDiff,Int.reduceLE,Int.reduceNe,Int.reduceEq,Nat.reduceEqDiff,Nat.reduceLT,Nat.reduceBEq,tyF,setFlat,ty,Ssall,hlp,hlq,d0,zae]
     refine zcv ⟨fun m σ => ∃ i : Nat,m = rs.length - i ∧ i ≤ rs.length ∧ (∀ j (h : j < rs.length) (h' : j < qs.length),j < i → rs[j] = qs[j]) ∧
         σ = ⟨[.sg 6 (rs.map rv) f,.sg 6 (qs.map rv) g,.junk,.junk,.junk,.w (.int .i64 i),.junk,.junk,.junk,.junk,.junk,.junk,.junk,.junk,.junk,.junk,.junk,.junk,.junk,.junk,.junk,.junk,.junk,.junk,.junk,.junk,.junk],[],4⟩,?_,?_⟩
     · refine ⟨_,_,zag [0,1,2,3] rfl rfl rfl ?_ ?_,0,rfl,by omega,by intro j _ _ h; omega,rfl⟩
       · simp only [ssT,zai,zaj,setSlot,gOf,AV.ren,renL,Blk.ren,Ax.look,Ax.put,reduceCtorEq,↓reduceIte,Nat.reduceEqDiff,Nat.reduceLT,Nat.reduceAdd,List.length_append,List.length_cons,List.length_nil,Option.some.injEq]; simp
       · simp only [ssT,zai,zaj,setSlot,gOf,AV.ren,renL,Blk.ren,Ax.look,Ax.put,reduceCtorEq,↓reduceIte,Nat.reduceEqDiff,Nat.reduceLT,Nat.reduceAdd,List.length_append,List.length_cons,List.length_nil,Option.some.injEq]
     · rintro m σ ⟨i,rfl,hi,hall,rfl⟩
       by_cases hil : i < rs.length
       · have d1 : decide ((i : Int) < rs.length) = true := decide_eq_true (by omega)
         have e1 : ((i : Int) + 1 + 9223372036854775808) % 18446744073709551616 - 9223372036854775808 = ((i + 1 : Nat) : Int) := by omega
         have hiq : i < qs.length := by omega
         have hs1 := zdj rv rs i hil
         have hs2 := zdj rv qs i hiq
         obtain ⟨P,hP⟩ : ∃ P,rs[i] = P := ⟨_,rfl⟩
         obtain ⟨Q,hQ⟩ : ∃ Q,qs[i] = Q := ⟨_,rfl⟩
         rw [hP] at hs1
         rw [hQ] at hs2
         simp only [rv] at hs1 hs2
         have hsm := sameB_rec P Q
         by_cases ha : P = Q
         · rw [decide_eq_true ha] at hsm
           simp only [go_sem,zaa,Nat.reduceAdd,Nat.reduceSub,Nat.reduceMul,Int.reduceToNat,reduceCtorEq,↓reduceIte,Int.reducePow,Nat.reducePow,Int.reduceMod,Nat.reduceLeDiff,Int.reduceLE,Int.reduceNe,Int.reduceEq,Nat.reduceEqDiff,Nat.reduceLT,Nat.reduceBEq,tyF,setFlat,ty,Ssall,rsameS,hlp,hlq,d1,hs1,hs2,e1,hsm,Int.toNat_natCast]
           repeat (refine And.intro (by omega) ?_)
           refine ⟨rs.length - (i + 1),_,by omega,zag [0,1,2,3] rfl rfl rfl ?_ ?_,i + 1,rfl,by omega,?_,rfl⟩
           · simp only [ssT,zai,zaj,setSlot,gOf,AV.ren,renL,Blk.ren,Ax.look,Ax.put,reduceCtorEq,↓reduceIte,Nat.reduceEqDiff,Nat.reduceLT,Nat.reduceAdd,List.length_append,List.length_cons,List.length_nil,Option.some.injEq]
           · simp only [ssT,zai,zaj,setSlot,gOf,AV.ren,renL,Blk.ren,Ax.look,Ax.put,reduceCtorEq,↓reduceIte,Nat.reduceEqDiff,Nat.reduceLT,Nat.reduceAdd,List.length_append,List.length_cons,List.length_nil,Option.some.injEq]
           · intro j h h' hj
             rcases Nat.lt_or_ge j i with h2 | h2
             · exact hall j h h' h2
             · have : j = i := by omega
               subst this
               rw [hP,hQ]; exact ha
         · rw [decide_eq_false ha] at hsm
           have dr : decide (rs = qs) = false := decide_eq_false (fun h => ha (by rw [← hP,← hQ]; exact hk.1 h i hil hiq))
           simp only [go_sem,zaa,Nat.reduceAdd,Nat.reduceSub,Nat.reduceMul,Int.reduceToNat,reduceCtorEq,↓reduceIte,Int.reducePow,Nat.reducePow,Int.reduceMod,Nat.reduceLeDiff,Int.reduceLE,Int.reduceNe,Int.reduceEq,Nat.reduceEqDiff,Nat.reduceLT,Nat.reduceBEq,tyF,setFlat,ty,Ssall,rsameS,hlp,hlq,d1,hs1,hs2,e1,hsm,dr,zae,Int.toNat_natCast]
           omega
       · have d1 : decide ((i : Int) < rs.length) = false := decide_eq_false (by omega)
         have dr : decide (rs = qs) = true := decide_eq_true (hk.2 fun j h h' => hall j h h' (by omega))
         simp only [go_sem,zaa,Nat.reduceAdd,Nat.reduceSub,Nat.reduceMul,Int.reduceToNat,reduceCtorEq,↓reduceIte,Int.reducePow,Nat.reducePow,Int.reduceMod,Nat.reduceLeDiff,Int.reduceLE,Int.reduceNe,Int.reduceEq,Nat.reduceEqDiff,Nat.reduceLT,Nat.reduceBEq,tyF,setFlat,ty,Ssall,hlp,hlq,d1,dr,zae]
   · have d0 : decide ((rs.length : Int) = qs.length) = false := decide_eq_false (by omega)
     have dr : decide (rs = qs) = false := decide_eq_false (fun h => hl (by rw [h]))
     simp only [go_sem,zaa,Nat.reduceAdd,Nat.reduceSub,Nat.reduceMul,Int.reduceToNat,reduceCtorEq,↓reduceIte,Int.reducePow,Nat.reducePow,Int.reduceMod,Nat.reduceLeDiff,Int.reduceLE,Int.reduceNe,Int.reduceEq,Nat.reduceEqDiff,Nat.reduceLT,Nat.reduceBEq,tyF,setFlat,ty,Ssall,hlp,hlq,d0,dr,zae]
 · exact hp.elim
def Srsame4 (f : FuncId) : Option zah :=
 match f with
 | 77 => some sallS
 | _ => none
theorem Srsame4_ok : Fns Try.prog Srsame4 := by
 intro f s h
 unfold Srsame4 at h
 split at h
 · injection h with h; subst h; exact ⟨⟨_,Try.func77,by kernel_rfl,by kernel_rfl⟩,sall_sound⟩
 · cases h
set_option maxHeartbeats 1000000 in
theorem rsame4_sound : zas Try.prog 54 bsameS4 := by
 refine zam (S := Srsame4) (T := ty) zau ty_ok Srsame4_ok Try.func54 (c := Try.f54.body.getD .skip) (by kernel_rfl) (by kernel_rfl) (fun xs pins hp _ => ?_)
 unfold bsameS4 at hp ⊢
 split at hp
 · rename_i b c p e s xs f b' c' p' e' s' ys g _
   obtain ⟨⟨hL1,rs,rfl⟩,hL2,qs,rfl⟩ := hp
   rw [List.length_map] at hL1 hL2
   refine ⟨by simp,?_⟩
   have hlp : (rs.map rv).length = rs.length := by simp
   have hlq : (qs.map rv).length = qs.length := by simp
   have hx1 : ∃ qs_1 : List Rec,rs.map rv = qs_1.map rv := ⟨rs,rfl⟩
   have hx2 : ∃ qs_1 : List Rec,qs.map rv = qs_1.map rv := ⟨qs,rfl⟩
   have hc1 : coe ty 23 (.sg 6 (rs.map rv) f) = .sg 6 (rs.map rv) f := by cases rs <;> rfl
   have hc2 : coe ty 23 (.sg 6 (qs.map rv) g) = .sg 6 (qs.map rv) g := by cases qs <;> rfl
   unfold Try.f54
   rcases same_cases b c p e s rs b' c' p' e' s' qs with D | D | D | D | D | D
   all_goals simp only [go_sem,zaa,Nat.reduceAdd,Nat.reduceSub,Nat.reduceMul,Int.reduceToNat,reduceCtorEq,↓reduceIte,Int.reducePow,Nat.reducePow,Int.reduceMod,Nat.reduceLeDiff,Int.reduceLE,Int.reduceNe,Int.reduceEq,Nat.reduceEqDiff,Nat.reduceLT,Nat.reduceBEq,hc1,hc2,ty,Srsame4,sallS,hlp,hlq,hL1,hL2,hx1,hx2,zae,D]
 · exact hp.elim
end
end Go.Proofs.Ytihbcgbmlecpbaa
namespace Go.Proofs.Ytihbcgbmlecpbaa
open Ax
def eqQ (k : Int) (t : List UInt8) (i p : Int) (c f : Bool) (o m w : Int) (g mb : List UInt8) (n : Int) (k' : Int) (t' : List UInt8) (i' p' : Int) (c' f' : Bool) (o' m' w' : Int) (g' mb' : List UInt8) (n' : Int) (B : Bool) : Bool := decide (k = k' ∧ t = t' ∧ i = i' ∧ p = p' ∧ c = c' ∧ f = f' ∧ o = o' ∧ m = m' ∧ w = w' ∧ g = g' ∧ mb = mb' ∧ n = n') && B
theorem eqQ_cases (k : Int) (t : List UInt8) (i p : Int) (c f : Bool) (o m w : Int) (g mb : List UInt8) (n : Int) (k' : Int) (t' : List UInt8) (i' p' : Int) (c' f' : Bool) (o' m' w' : Int) (g' mb' : List UInt8) (n' : Int) :
   ((∀ B,eqQ k t i p c f o m w g mb n k' t' i' p' c' f' o' m' w' g' mb' n' B = false) ∧ decide (k = k') = false) ∨
   ((∀ B,eqQ k t i p c f o m w g mb n k' t' i' p' c' f' o' m' w' g' mb' n' B = false) ∧ decide (k = k') = true ∧ decide (t = t') = false) ∨
   ((∀ B,eqQ k t i p c f o m w g mb n k' t' i' p' c' f' o' m' w' g' mb' n' B = false) ∧ decide (k = k') = true ∧ decide (t = t') = true ∧ decide (i = i') = false) ∨
   ((∀ B,eqQ k t i p c f o m w g mb n k' t' i' p' c' f' o' m' w' g' mb' n' B = false) ∧ decide (k = k') = true ∧ decide (t = t') = true ∧ decide (i = i') = true ∧ decide (p = p') = false) ∨
   ((∀ B,eqQ k t i p c f o m w g mb n k' t' i' p' c' f' o' m' w' g' mb' n' B = false) ∧ decide (k = k') = true ∧ decide (t = t') = true ∧ decide (i = i') = true ∧ decide (p = p') = true ∧ (c == c') = false) ∨
   ((∀ B,eqQ k t i p c f o m w g mb n k' t' i' p' c' f' o' m' w' g' mb' n' B = false) ∧ decide (k = k') = true ∧ decide (t = t') = true ∧ decide (i = i') = true ∧ decide (p = p') = true ∧ (c == c') = true ∧ (f == f') = false) ∨
   ((∀ B,eqQ k t i p c f o m w g mb n k' t' i' p' c' f' o' m' w' g' mb' n' B = false) ∧ decide (k = k') = true ∧ decide (t = t') = true ∧ decide (i = i') = true ∧ decide (p = p') = true ∧ (c == c') = true ∧ (f == f') = true ∧ decide (o = o') = false) ∨
   ((∀ B,eqQ k t i p c f o m w g mb n k' t' i' p' c' f' o' m' w' g' mb' n' B = false) ∧ decide (k = k') = true ∧ decide (t = t') = true ∧ decide (i = i') = true ∧ decide (p = p') = true ∧ (c == c') = true ∧ (f == f') = true ∧ decide (o = o') = true ∧ decide (m = m') = false) ∨
   ((∀ B,eqQ k t i p c f o m w g mb n k' t' i' p' c' f' o' m' w' g' mb' n' B = false) ∧ decide (k = k') = true ∧ decide (t = t') = true ∧ decide (i = i') = true ∧ decide (p = p') = true ∧ (c == c') = true ∧ (f == f') = true ∧ decide (o = o') = true ∧ decide (m = m') = true ∧ decide (w = w') = false) ∨
   ((∀ B,eqQ k t i p c f o m w g mb n k' t' i' p' c' f' o' m' w' g' mb' n' B = false) ∧ decide (k = k') = true ∧ decide (t = t') = true ∧ decide (i = i') = true ∧ decide (p = p') = true ∧ (c == c') = true ∧ (f == f') = true ∧ decide (o = o') = true ∧ decide (m = m') = true ∧ decide (w = w') = true ∧ decide (g = g') = false) ∨
   ((∀ B,eqQ k t i p c f o m w g mb n k' t' i' p' c' f' o' m' w' g' mb' n' B = false) ∧ decide (k = k') = true ∧ decide (t = t') = true ∧ decide (i = i') = true ∧ decide (p = p') = true ∧ (c == c') = true ∧ (f == f') = true ∧ decide (o = o') = true ∧ decide (m = m') = true ∧ decide (w = w') = true ∧ decide (g = g') = true ∧ decide (mb = mb') = false) ∨
   ((∀ B,eqQ k t i p c f o m w g mb n k' t' i' p' c' f' o' m' w' g' mb' n' B = false) ∧ decide (k = k') = true ∧ decide (t = t') = true ∧ decide (i = i') = true ∧ decide (p = p') = true ∧ (c == c') = true ∧ (f == f') = true ∧ decide (o = o') = true ∧ decide (m = m') = true ∧ decide (w = w') = true ∧ decide (g = g') = true ∧ decide (mb = mb') = true ∧ decide (n = n') = false) ∨
   ((∀ B,eqQ k t i p c f o m w g mb n k' t' i' p' c' f' o' m' w' g' mb' n' B = B) ∧ decide (k = k') = true ∧ decide (t = t') = true ∧ decide (i = i') = true ∧ decide (p = p') = true ∧ (c == c') = true ∧ (f == f') = true ∧ decide (o = o') = true ∧ decide (m = m') = true ∧ decide (w = w') = true ∧ decide (g = g') = true ∧ decide (mb = mb') = true ∧ decide (n = n') = true) := by
 by_cases h0 : k = k'
 case neg =>
   exact .inl ⟨fun B => by unfold eqQ; rw [decide_eq_false (fun h => h0 h.1)]; rfl,decide_eq_false h0⟩
 by_cases h1 : t = t'
 case neg =>
   exact .inr (.inl ⟨fun B => by unfold eqQ; rw [decide_eq_false (fun h => h1 h.2.1)]; rfl,decide_eq_true h0,decide_eq_false h1⟩)
 by_cases h2 : i = i'
 case neg =>
   exact .inr (.inr (.inl ⟨fun B => by unfold eqQ; rw [decide_eq_false (fun h => h2 h.2.2.1)]; rfl,decide_eq_true h0,decide_eq_true h1,decide_eq_false h2⟩))
 by_cases h3 : p = p'
 case neg =>
   exact .inr (.inr (.inr (.inl ⟨fun B => by unfold eqQ; rw [decide_eq_false (fun h => h3 h.2.2.2.1)]; rfl,decide_eq_true h0,decide_eq_true h1,decide_eq_true h2,decide_eq_false h3⟩)))
 by_cases h4 : c = c'
 case neg =>
   exact .inr (.inr (.inr (.inr (.inl ⟨fun B => by unfold eqQ; rw [decide_eq_false (fun h => h4 h.2.2.2.2.1)]; rfl,decide_eq_true h0,decide_eq_true h1,decide_eq_true h2,decide_eq_true h3,(beq_false_of_ne h4)⟩))))
 by_cases h5 : f = f'
 case neg =>
   exact .inr (.inr (.inr (.inr (.inr (.inl ⟨fun B => by unfold eqQ; rw [decide_eq_false (fun h => h5 h.2.2.2.2.2.1)]; rfl,decide_eq_true h0,decide_eq_true h1,decide_eq_true h2,decide_eq_true h3,(by rw [h4]; exact beq_self_eq_true _),(beq_false_of_ne h5)⟩)))))
 by_cases h6 : o = o'
 case neg =>
   exact .inr (.inr (.inr (.inr (.inr (.inr (.inl ⟨fun B => by unfold eqQ; rw [decide_eq_false (fun h => h6 h.2.2.2.2.2.2.1)]; rfl,decide_eq_true h0,decide_eq_true h1,decide_eq_true h2,decide_eq_true h3,(by rw [h4]; exact beq_self_eq_true _),(by rw [h5]; exact beq_self_eq_true _),decide_eq_false h6⟩))))))
 by_cases h7 : m = m'
 case neg =>
   exact .inr (.inr (.inr (.inr (.inr (.inr (.inr (.inl ⟨fun B => by unfold eqQ; rw [decide_eq_false (fun h => h7 h.2.2.2.2.2.2.2.1)]; rfl,decide_eq_true h0,decide_eq_true h1,decide_eq_true h2,decide_eq_true h3,(by rw [h4]; exact beq_self_eq_true _),(by rw [h5]; exact beq_self_eq_true _),decide_eq_true h6,decide_eq_false h7⟩)))))))
 by_cases h8 : w = w'
 case neg =>
   exact .inr (.inr (.inr (.inr (.inr (.inr (.inr (.inr (.inl ⟨fun B => by unfold eqQ; rw [decide_eq_false (fun h => h8 h.2.2.2.2.2.2.2.2.1)]; rfl,decide_eq_true h0,decide_eq_true h1,decide_eq_true h2,decide_eq_true h3,(by rw [h4]; exact beq_self_eq_true _),(by rw [h5]; exact beq_self_eq_true _),decide_eq_true h6,decide_eq_true h7,decide_eq_false h8⟩))))))))
 by_cases h9 : g = g'
 case neg =>
   exact .inr (.inr (.inr (.inr (.inr (.inr (.inr (.inr (.inr (.inl ⟨fun B => by unfold eqQ; rw [decide_eq_false (fun h => h9 h.2.2.2.2.2.2.2.2.2.1)]; rfl,decide_eq_true h0,decide_eq_true h1,decide_eq_true h2,decide_eq_true h3,(by rw [h4]; exact beq_self_eq_true _),(by rw [h5]; exact beq_self_eq_true _),decide_eq_true h6,decide_eq_true h7,decide_eq_true h8,decide_eq_false h9⟩)))))))))
 by_cases h10 : mb = mb'
 case neg =>
   exact .inr (.inr (.inr (.inr (.inr (.inr (.inr (.inr (.inr (.inr (.inl ⟨fun B => by unfold eqQ; rw [decide_eq_false (fun h => h10 h.2.2.2.2.2.2.2.2.2.2.1)]; rfl,decide_eq_true h0,decide_eq_true h1,decide_eq_true h2,decide_eq_true h3,(by rw [h4]; exact beq_self_eq_true _),(by rw [h5]; exact beq_self_eq_true _),decide_eq_true h6,decide_eq_true h7,decide_eq_true h8,decide_eq_true h9,decide_eq_false h10⟩))))))))))
 by_cases h11 : n = n'
 case neg =>
   exact .inr (.inr (.inr (.inr (.inr (.inr (.inr (.inr (.inr (.inr (.inr (.inl ⟨fun B => by unfold eqQ; rw [decide_eq_false (fun h => h11 h.2.2.2.2.2.2.2.2.2.2.2)]; rfl,decide_eq_true h0,decide_eq_true h1,decide_eq_true h2,decide_eq_true h3,(by rw [h4]; exact beq_self_eq_true _),(by rw [h5]; exact beq_self_eq_true _),decide_eq_true h6,decide_eq_true h7,decide_eq_true h8,decide_eq_true h9,decide_eq_true h10,decide_eq_false h11⟩)))))))))))
 exact .inr (.inr (.inr (.inr (.inr (.inr (.inr (.inr (.inr (.inr (.inr (.inr (⟨fun B => by unfold eqQ; rw [decide_eq_true ⟨h0,h1,h2,h3,h4,h5,h6,h7,h8,h9,h10,h11⟩]; rfl,decide_eq_true h0,decide_eq_true h1,decide_eq_true h2,decide_eq_true h3,(by rw [h4]; exact beq_self_eq_true _),(by rw [h5]; exact beq_self_eq_true _),decide_eq_true h6,decide_eq_true h7,decide_eq_true h8,decide_eq_true h9,decide_eq_true h10,decide_eq_true h11⟩))))))))))))
def zfm : zah
 | [.agg [.w (.int .u8 k),.str t,.w (.int .i64 i),.w (.int .i64 p),.w (.bool c),.w (.bool f),.w (.int .i64 o),.w (.int .i64 m),.w (.int .i64 w),.str g,.str mb,.w (.int .i64 n),.w (.int .i64 b1),.w (.int .i64 b2),.w (.int .i64 b3),.w (.int .i64 b4),.w (.int .i64 b5),.sg 6 xs fl],.agg [.w (.int .u8 k'),.str t',.w (.int .i64 i'),.w (.int .i64 p'),.w (.bool c'),.w (.bool f'),.w (.int .i64 o'),.w (.int .i64 m'),.w (.int .i64 w'),.str g',.str mb',.w (.int .i64 n'),.w (.int .i64 b1'),.w (.int .i64 b2'),.w (.int .i64 b3'),.w (.int .i64 b4'),.w (.int .i64 b5'),.sg 6 ys fm]],[] =>
     ⟨(xs.length ≤ 9223372036854775807 ∧ ∃ rs : List Rec,xs = rs.map rv) ∧ ys.length ≤ 9223372036854775807 ∧ ∃ qs : List Rec,ys = qs.map rv,.w (.bool (eqQ k t i p c f o m w g mb n k' t' i' p' c' f' o' m' w' g' mb' n' (zbq b1 b2 b3 b4 b5 (xs.map rrec) b1' b2' b3' b4' b5' (ys.map rrec)))),[]⟩
 | _,_ => zbc
def Ssreq22 (f : FuncId) : Option zah :=
 match f with
 | 53 => some bsameS4
 | _ => none
theorem Ssreq22_ok : Fns Try.prog Ssreq22 := by
 intro f s h
 unfold Ssreq22 at h
 split at h
 · injection h with h; subst h; exact ⟨⟨_,Try.func53,by kernel_rfl,by kernel_rfl⟩,bsame4_sound⟩
 · cases h
section
set_option maxRecDepth 100000
set_option maxHeartbeats 8000000 in
theorem sreq22_sound : zas Try.prog 27 zfm := by
 refine zbj (S := Ssreq22) (T := ty) zau ty_ok Ssreq22_ok Try.func27 (c := Try.f27.body.getD .skip) (by kernel_rfl) (by kernel_rfl) (fun xs pins hp _ => ?_)
 unfold zfm at hp ⊢
 split at hp
 · rename_i k t i p c f o m w g mb n b1 b2 b3 b4 b5 xs fl k' t' i' p' c' f' o' m' w' g' mb' n' b1' b2' b3' b4' b5' ys fm _
   obtain ⟨hX,hY1,hY2⟩ := hp
   refine ⟨by simp,?_⟩
   unfold Try.f27
   rcases eqQ_cases k t i p c f o m w g mb n k' t' i' p' c' f' o' m' w' g' mb' n' with D | D | D | D | D | D | D | D | D | D | D | D | D
   all_goals
     simp only [go_sem,coe,zaa,Nat.reduceAdd,Nat.reduceSub,Nat.reduceMul,Int.reduceToNat,reduceCtorEq,↓reduceIte,Int.reducePow,Nat.reducePow,Int.reduceMod,Nat.reduceLeDiff,Int.reduceLE,Int.reduceNe,Int.reduceEq,Nat.reduceEqDiff,Nat.reduceLT,Nat.reduceBEq,ty,Ssreq22,bsameS4,hX,hY1,hY2,D]
     exact zay 4 rfl
 · exact hp.elim
end
def Srsreq22 (f : FuncId) : Option zah :=
 match f with
 | 54 => some bsameS4
 | _ => none
theorem Srsreq22_ok : Fns Try.prog Srsreq22 := by
 intro f s h
 unfold Srsreq22 at h
 split at h
 · injection h with h; subst h; exact ⟨⟨_,Try.func54,by kernel_rfl,by kernel_rfl⟩,rsame4_sound⟩
 · cases h
section
set_option maxRecDepth 100000
set_option maxHeartbeats 8000000 in
theorem rsreq22_sound : zas Try.prog 29 zfm := by
 refine zbj (S := Srsreq22) (T := ty) zau ty_ok Srsreq22_ok Try.func29 (c := Try.f29.body.getD .skip) (by kernel_rfl) (by kernel_rfl) (fun xs pins hp _ => ?_)
 unfold zfm at hp ⊢
 split at hp
 · rename_i k t i p c f o m w g mb n b1 b2 b3 b4 b5 xs fl k' t' i' p' c' f' o' m' w' g' mb' n' b1' b2' b3' b4' b5' ys fm _
   obtain ⟨hX,hY1,hY2⟩ := hp
   refine ⟨by simp,?_⟩
   unfold Try.f29
   rcases eqQ_cases k t i p c f o m w g mb n k' t' i' p' c' f' o' m' w' g' mb' n' with D | D | D | D | D | D | D | D | D | D | D | D | D
   all_goals
     simp only [go_sem,coe,zaa,Nat.reduceAdd,Nat.reduceSub,Nat.reduceMul,Int.reduceToNat,reduceCtorEq,↓reduceIte,Int.reducePow,Nat.reducePow,Int.reduceMod,Nat.reduceLeDiff,Int.reduceLE,Int.reduceNe,Int.reduceEq,Nat.reduceEqDiff,Nat.reduceLT,Nat.reduceBEq,ty,Srsreq22,bsameS4,hX,hY1,hY2,D]
     exact zay 4 rfl
 · exact hp.elim
end
end Go.Proofs.Ytihbcgbmlecpbaa
namespace Go.Proofs.Ytihbcgbmlecpbaa
open Ax
def zbk (k : Int) (t : List UInt8) (i p : Int) (c f : Bool) (o m w : Int) (g mb : List UInt8) (n b1 b2 b3 b4 b5 : Int) (rs : List Rec) : Bool :=
 eqQ k t i p c f o m w g mb n k (if k = 0 ∨ k = 1 ∨ k = 2 ∨ k = 3 ∨ k = 4 ∨ k = 5 ∨ k = 7 ∨ k = 10 ∨ k = 11 then t else []) (if k = 3 ∨ k = 4 ∨ k = 5 ∨ k = 10 ∨ k = 11 then i else 0) (if k = 0 then p else 0) (if k = 0 then c else false) (if k = 3 then f else false) (if k = 4 ∨ k = 10 then o else 0) (if k = 4 then m else 0) (if k = 5 then w else 0) (if k = 6 ∨ k = 7 ∨ k = 8 ∨ k = 9 ∨ k = 10 ∨ k = 11 then g else []) (if k = 6 ∨ k = 7 ∨ k = 8 ∨ k = 9 ∨ k = 10 then mb else []) (if k = 7 ∨ k = 8 ∨ k = 10 then n else 0) (zbq b1 b2 b3 b4 b5 rs (if k = 3 then b1 else 0) (if k = 3 then b2 else 0) (if k = 3 then b3 else 0) (if k = 3 then b4 else 0) (if k = 3 then b5 else 0) (if k = 3 then rs else []))
def zdw (t g mb : List UInt8) : Prop := 255 < t.length ∨ 255 < g.length ∨ 255 < mb.length
instance (t g mb : List UInt8) : Decidable (zdw t g mb) := by unfold zdw; infer_instance
def chkQ (k : Int) (t : List UInt8) (i p : Int) (c f : Bool) (o m w : Int) (g mb : List UInt8) (n b1 b2 b3 b4 b5 : Int) (rs : List Rec) : Int :=
 if 11 < k then 22 else if zbk k t i p c f o m w g mb n b1 b2 b3 b4 b5 rs = false then 4 else if zdw t g mb then 5 else if k ≠ 3 then 0 else if batE 0 b2 b3 b4 b5 rs ≠ 0 then batE 0 b2 b3 b4 b5 rs else if b1 ≠ 0 then 4 else 0
def chkQS : zah
 | [.agg [.w (.int .u8 k),.str t,.w (.int .i64 i),.w (.int .i64 p),.w (.bool c),.w (.bool f),.w (.int .i64 o),.w (.int .i64 m),.w (.int .i64 w),.str g,.str mb,.w (.int .i64 n),.w (.int .i64 b1),.w (.int .i64 b2),.w (.int .i64 b3),.w (.int .i64 b4),.w (.int .i64 b5),.sg 6 xs fl]],[] => ⟨0 ≤ k ∧ k < 256 ∧ xs.length ≤ 9223372036854775807 ∧ ∃ rs : List Rec,xs = rs.map rv,.w (.int .i64 (chkQ k t i p c f o m w g mb n b1 b2 b3 b4 b5 (xs.map rrec))),[]⟩
 | _,_ => zbc
theorem long_cases (t g mb : List UInt8) :
   (decide ((255 : Int) < t.length) = true ∧ zdw t g mb) ∨ (decide ((255 : Int) < t.length) = false ∧ decide ((255 : Int) < g.length) = true ∧ zdw t g mb) ∨
   (decide ((255 : Int) < t.length) = false ∧ decide ((255 : Int) < g.length) = false ∧ decide ((255 : Int) < mb.length) = true ∧ zdw t g mb) ∨
   (decide ((255 : Int) < t.length) = false ∧ decide ((255 : Int) < g.length) = false ∧ decide ((255 : Int) < mb.length) = false ∧ ¬ zdw t g mb) := by
 unfold zdw
 by_cases h1 : 255 < t.length
 · exact .inl ⟨decide_eq_true (by omega),.inl h1⟩
 · by_cases h2 : 255 < g.length
   · exact .inr (.inl ⟨decide_eq_false (by omega),decide_eq_true (by omega),.inr (.inl h2)⟩)
   · by_cases h3 : 255 < mb.length
     · exact .inr (.inr (.inl ⟨decide_eq_false (by omega),decide_eq_false (by omega),decide_eq_true (by omega),.inr (.inr h3)⟩))
     · exact .inr (.inr (.inr ⟨decide_eq_false (by omega),decide_eq_false (by omega),decide_eq_false (by omega),by omega⟩))
theorem only_recs (k : Int) (rs : List Rec) (hL : (rs.map rv).length ≤ 9223372036854775807) : (if k = 3 then rs.map rv else []).length ≤ 9223372036854775807 ∧ (∃ qs : List Rec,(if k = 3 then rs.map rv else []) = qs.map rv) ∧ (if k = 3 then rs.map rv else []).map rrec = (if k = 3 then rs else []) := by
 by_cases h : k = 3
 · rw [if_pos h,if_pos h]; exact ⟨hL,⟨rs,rfl⟩,zae rs⟩
 · rw [if_neg h,if_neg h]; exact ⟨by simp,⟨[],rfl⟩,rfl⟩
theorem only_told (k : Int) (t : List UInt8) (i p : Int) (c f : Bool) (o m w : Int) (g mb : List UInt8) (n b1 b2 b3 b4 b5 : Int) (rs : List Rec) (fl : Bool) (hL : (rs.map rv).length ≤ 9223372036854775807) :
   ∃ (t' : List UInt8) (i' p' : Int) (c' f' : Bool) (o' m' w' : Int) (g' mb' : List UInt8) (n' b1' b2' b3' b4' b5' : Int) (ys : List AV) (fm : Bool),
     onlyQ k t i p c f o m w g mb n b1 b2 b3 b4 b5 (rs.map rv) fl = .agg [.w (.int .u8 k),.str t',.w (.int .i64 i'),.w (.int .i64 p'),.w (.bool c'),.w (.bool f'),.w (.int .i64 o'),.w (.int .i64 m'),.w (.int .i64 w'),.str g',.str mb',.w (.int .i64 n'),.w (.int .i64 b1'),.w (.int .i64 b2'),.w (.int .i64 b3'),.w (.int .i64 b4'),.w (.int .i64 b5'),.sg 6 ys fm] ∧
     ys.length ≤ 9223372036854775807 ∧ (∃ qs : List Rec,ys = qs.map rv) ∧ eqQ k t i p c f o m w g mb n k t' i' p' c' f' o' m' w' g' mb' n' (zbq b1 b2 b3 b4 b5 rs b1' b2' b3' b4' b5' (ys.map rrec)) = zbk k t i p c f o m w g mb n b1 b2 b3 b4 b5 rs := by
 obtain ⟨h1,h2,h3⟩ := only_recs k rs hL
 refine ⟨_,_,_,_,_,_,_,_,_,_,_,_,_,_,_,_,_,_,rfl,h1,h2,?_⟩
 rw [h3]; rfl
def SchkQ (f : FuncId) : Option zah :=
 match f with
 | 65 => some zch
 | 27 => some zfm
 | 66 => some bchkS4
 | _ => none
theorem SchkQ_ok : Fns Try.prog SchkQ := by
 intro f s h
 unfold SchkQ at h
 split at h
 · injection h with h; subst h; exact ⟨⟨_,Try.func65,by kernel_rfl,by kernel_rfl⟩,just22_sound⟩
 · injection h with h; subst h; exact ⟨⟨_,Try.func27,by kernel_rfl,by kernel_rfl⟩,sreq22_sound⟩
 · injection h with h; subst h; exact ⟨⟨_,Try.func66,by kernel_rfl,by kernel_rfl⟩,bchk4_sound⟩
 · cases h
def chkQPl : Plan := fun id => match id with
 | 3 => some [(0,2)]
 | _ => none
section
set_option maxRecDepth 100000
set_option maxHeartbeats 8000000 in
theorem chkQ_sound : zas Try.prog 43 chkQS := by
 refine fn_soundF (S := SchkQ) (T := ty) (pl := chkQPl) zau ty_ok SchkQ_ok Try.func43 (c := Try.f43.body.getD .skip) (by kernel_rfl) (by kernel_rfl) (fun xs pins hp _ => ?_)
 unfold chkQS at hp ⊢
 split at hp
 · rename_i k t i p c f o m w g mb n b1 b2 b3 b4 b5 xs fl _
   obtain ⟨hk0,hk1,hL,rs,rfl⟩ := hp
   rw [zae]
   refine ⟨by simp,?_⟩
   unfold Try.f43
   by_cases hk : 11 < k
   · have d1 := decide_eq_true hk
     have hv : chkQ k t i p c f o m w g mb n b1 b2 b3 b4 b5 rs = 22 := if_pos hk
     simp only [go_sem,coe,zar,Nat.reduceAdd,Nat.reduceSub,Nat.reduceMul,Int.reduceToNat,reduceCtorEq,↓reduceIte,Int.reducePow,Nat.reducePow,Int.reduceMod,Nat.reduceLeDiff,Int.reduceLE,Int.reduceNe,Int.reduceEq,Nat.reduceEqDiff,Nat.reduceLT,Nat.reduceBEq,List.map_cons,List.map_nil,List.toList_toArray,Array.toList_append,Option.toArray_some,Option.toArray_none,Bool.and_self,ty,SchkQ,chkQPl,d1,hv]
     exact zay 2 rfl
   have d1 := decide_eq_false hk
   have hk2 : k ≤ 11 := by omega
   have hmr := zae rs
   have hex : ∃ qs : List Rec,rs.map rv = qs.map rv := ⟨rs,rfl⟩
   obtain ⟨t',i',p',c',f',o',m',w',g',mb',n',b1',b2',b3',b4',b5',ys,fm,hO,hY1,hY2,hS⟩ := only_told k t i p c f o m w g mb n b1 b2 b3 b4 b5 rs fl hL
   have hv1 : ¬ zbk k t i p c f o m w g mb n b1 b2 b3 b4 b5 rs = true → chkQ k t i p c f o m w g mb n b1 b2 b3 b4 b5 rs = 4 := fun h => by unfold chkQ; rw [if_neg hk,if_pos (by simpa using h)]
   have hv2 : zbk k t i p c f o m w g mb n b1 b2 b3 b4 b5 rs = true → zdw t g mb → chkQ k t i p c f o m w g mb n b1 b2 b3 b4 b5 rs = 5 := fun h h2 => by unfold chkQ; rw [if_neg hk,if_neg (by rw [h]; decide),if_pos h2]
   have hv3 : zbk k t i p c f o m w g mb n b1 b2 b3 b4 b5 rs = true → ¬ zdw t g mb → k ≠ 3 → chkQ k t i p c f o m w g mb n b1 b2 b3 b4 b5 rs = 0 := fun h h2 h3 => by unfold chkQ; rw [if_neg hk,if_neg (by rw [h]; decide),if_neg h2,if_pos h3]
   have hv4 : zbk k t i p c f o m w g mb n b1 b2 b3 b4 b5 rs = true → ¬ zdw t g mb → k = 3 → batE 0 b2 b3 b4 b5 rs ≠ 0 → chkQ k t i p c f o m w g mb n b1 b2 b3 b4 b5 rs = batE 0 b2 b3 b4 b5 rs := fun h h2 h3 h4 => by unfold chkQ; rw [if_neg hk,if_neg (by rw [h]; decide),if_neg h2,if_neg (fun g => g h3),if_pos h4]
   have hv5 : zbk k t i p c f o m w g mb n b1 b2 b3 b4 b5 rs = true → ¬ zdw t g mb → k = 3 → batE 0 b2 b3 b4 b5 rs = 0 → chkQ k t i p c f o m w g mb n b1 b2 b3 b4 b5 rs = if b1 = 0 then 0 else 4 := fun h h2 h3 h4 => by
     unfold chkQ; rw [if_neg hk,if_neg (by rw [h]; decide),if_neg h2,if_neg (fun g => g h3),if_neg (fun g => g h4)]
     by_cases h5 : b1 = 0
     · rw [if_pos h5,if_neg (fun g => g h5)]
     · rw [if_neg h5,if_pos h5]
   obtain ⟨V,hV⟩ : ∃ x,chkQ k t i p c f o m w g mb n b1 b2 b3 b4 b5 rs = x := ⟨_,rfl⟩
   obtain ⟨S,hSS⟩ : ∃ x,zbk k t i p c f o m w g mb n b1 b2 b3 b4 b5 rs = x := ⟨_,rfl⟩
   rw [hSS] at hS hv1 hv2 hv3 hv4 hv5
   rw [hV] at hv1 hv2 hv3 hv4 hv5 ⊢
   cases S with
   | false =>
     have hv := hv1 (by decide)
     simp only [go_sem,coe,zar,Nat.reduceAdd,Nat.reduceSub,Nat.reduceMul,Int.reduceToNat,reduceCtorEq,↓reduceIte,Int.reducePow,Nat.reducePow,Int.reduceMod,Nat.reduceLeDiff,Int.reduceLE,Int.reduceNe,Int.reduceEq,Nat.reduceEqDiff,Nat.reduceLT,Nat.reduceBEq,List.map_cons,List.map_nil,List.toList_toArray,Array.toList_append,Option.toArray_some,Option.toArray_none,Bool.and_self,ty,SchkQ,chkQPl,zch,zfm,d1,hk0,hk2,hO,hL,hex,hmr,hY1,hY2,hS,hv]
     exact zay 2 rfl
   | true =>
     rcases long_cases t g mb with D | D | D | D
     rotate_right 1
     · have hnl : ¬ zdw t g mb := D.2.2.2
       by_cases hk3 : k = 3
       · have d2 := decide_eq_true hk3
         by_cases he : batE 0 b2 b3 b4 b5 rs = 0
         · by_cases hb : b1 = 0
           · have d4 := decide_eq_true hb
             have hv := hv5 rfl hnl hk3 he
             rw [if_pos hb] at hv
             simp only [go_sem,coe,zar,Nat.reduceAdd,Nat.reduceSub,Nat.reduceMul,Int.reduceToNat,reduceCtorEq,↓reduceIte,Int.reducePow,Nat.reducePow,Int.reduceMod,Nat.reduceLeDiff,Int.reduceLE,Int.reduceNe,Int.reduceEq,Nat.reduceEqDiff,Nat.reduceLT,Nat.reduceBEq,List.map_cons,List.map_nil,List.toList_toArray,Array.toList_append,Option.toArray_some,Option.toArray_none,Bool.and_self,ty,SchkQ,chkQPl,zch,zfm,bchkS4,d1,d2,d4,hk0,hk2,hO,hL,hex,hmr,hY1,hY2,hS,D,he,hv]
             exact zay 2 rfl
           · have d4 := decide_eq_false hb
             have hv := hv5 rfl hnl hk3 he
             rw [if_neg hb] at hv
             simp only [go_sem,coe,zar,Nat.reduceAdd,Nat.reduceSub,Nat.reduceMul,Int.reduceToNat,reduceCtorEq,↓reduceIte,Int.reducePow,Nat.reducePow,Int.reduceMod,Nat.reduceLeDiff,Int.reduceLE,Int.reduceNe,Int.reduceEq,Nat.reduceEqDiff,Nat.reduceLT,Nat.reduceBEq,List.map_cons,List.map_nil,List.toList_toArray,Array.toList_append,Option.toArray_some,Option.toArray_none,Bool.and_self,ty,SchkQ,chkQPl,zch,zfm,bchkS4,d1,d2,d4,hk0,hk2,hO,hL,hex,hmr,hY1,hY2,hS,D,he,hv]
             exact zay 2 rfl
         · have d3 := decide_eq_false he
           have hv := hv4 rfl hnl hk3 he
           simp only [go_sem,coe,zar,Nat.reduceAdd,Nat.reduceSub,Nat.reduceMul,Int.reduceToNat,reduceCtorEq,↓reduceIte,Int.reducePow,Nat.reducePow,Int.reduceMod,Nat.reduceLeDiff,Int.reduceLE,Int.reduceNe,Int.reduceEq,Nat.reduceEqDiff,Nat.reduceLT,Nat.reduceBEq,List.map_cons,List.map_nil,List.toList_toArray,Array.toList_append,Option.toArray_some,Option.toArray_none,Bool.and_self,ty,SchkQ,chkQPl,zch,zfm,bchkS4,d1,d2,d3,hk0,hk2,hO,hL,hex,hmr,hY1,hY2,hS,D,hv]
           exact zay 2 rfl
       · have d2 := decide_eq_false hk3
         have hv := hv3 rfl hnl hk3
         simp only [go_sem,coe,zar,Nat.reduceAdd,Nat.reduceSub,Nat.reduceMul,Int.reduceToNat,reduceCtorEq,↓reduceIte,Int.reducePow,Nat.reducePow,Int.reduceMod,Nat.reduceLeDiff,Int.reduceLE,Int.reduceNe,Int.reduceEq,Nat.reduceEqDiff,Nat.reduceLT,Nat.reduceBEq,List.map_cons,List.map_nil,List.toList_toArray,Array.toList_append,Option.toArray_some,Option.toArray_none,Bool.and_self,ty,SchkQ,chkQPl,zch,zfm,bchkS4,d1,d2,hk0,hk2,hO,hL,hex,hmr,hY1,hY2,hS,D,hv]
         exact zay 2 rfl
     all_goals
       have hv := hv2 rfl (by first | exact D.2 | exact D.2.2 | exact D.2.2.2)
       simp only [go_sem,coe,zar,Nat.reduceAdd,Nat.reduceSub,Nat.reduceMul,Int.reduceToNat,reduceCtorEq,↓reduceIte,Int.reducePow,Nat.reducePow,Int.reduceMod,Nat.reduceLeDiff,Int.reduceLE,Int.reduceNe,Int.reduceEq,Nat.reduceEqDiff,Nat.reduceLT,Nat.reduceBEq,List.map_cons,List.map_nil,List.toList_toArray,Array.toList_append,Option.toArray_some,Option.toArray_none,Bool.and_self,ty,SchkQ,chkQPl,zch,zfm,d1,hk0,hk2,hO,hL,hex,hmr,hY1,hY2,hS,D,hv]
       exact zay 2 rfl
 · exact hp.elim
end
end Go.Proofs.Ytihbcgbmlecpbaa
