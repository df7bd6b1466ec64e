/- What the proofs of this seat stand on; it asks nothing. -/
import Derived.Test.YtmedjkjoannbmaaZa18
import Derived.Test.YtmedjkjoannbmaaZc00
import Derived.Test.YtmedjkjoannbmaaZd00
set_option linter.unusedSimpArgs false
set_option linter.unusedVariables false
namespace Go.Proofs.Ytmedjkjoannbmaa
open Ax
section
set_option maxRecDepth 100000
set_option maxHeartbeats 4000000 in
theorem ruses22_sound : zbf Try.prog 15 zbh := by
 refine zau (S := noS) (T := ty) zbj ty_ok zcy Try.func15 (c := Try.f15.body.getD .skip) (by kernel_rfl) (by kernel_rfl) (fun xs pins hp _ => ?_)
 unfold zbh at hp ⊢
 split at hp
 · rename_i k _
   refine ⟨by simp,?_⟩
   unfold Try.f15
   rcases knd_cases k with ⟨h0,h1,h2,h3,h4,h5,h6,h7,h8,h9,h10,h11⟩ | rfl | rfl | rfl | rfl | rfl | rfl | rfl | rfl | rfl | rfl | rfl | rfl
   · have hu : zat k = [] := by unfold zat; simp only [h0,h1,h2,h3,h4,h5,h6,h7,h8,h9,h10,h11,if_false]
     have d0 := decide_eq_false h0
     have d1 := decide_eq_false h1
     have d2 := decide_eq_false h2
     have d3 := decide_eq_false h3
     have d4 := decide_eq_false h4
     have d5 := decide_eq_false h5
     have d6 := decide_eq_false h6
     have d7 := decide_eq_false h7
     have d8 := decide_eq_false h8
     have d9 := decide_eq_false h9
     have d10 := decide_eq_false h10
     have d11 := decide_eq_false h11
     simp only [go_sem,coe,zaa,Nat.reduceAdd,Nat.reduceSub,Nat.reduceMul,Int.reduceToNat,reduceCtorEq,↓reduceIte,Int.reducePow,Nat.reducePow,Int.reduceMod,Nat.reduceLeDiff,Int.reduceLE,Int.reduceNe,Int.reduceEq,Nat.reduceEqDiff,Nat.reduceLT,Nat.reduceBEq,ty,noS,hu,d0,d1,d2,d3,d4,d5,d6,d7,d8,d9,d10,d11]
   all_goals simp only [go_sem,coe,zaa,Nat.reduceAdd,Nat.reduceSub,Nat.reduceMul,Int.reduceToNat,reduceCtorEq,↓reduceIte,Int.reducePow,Nat.reducePow,Int.reduceMod,Nat.reduceLeDiff,Int.reduceLE,Int.reduceNe,Int.reduceEq,Nat.reduceEqDiff,Nat.reduceLT,Nat.reduceBEq,ty,noS,zat,Int.reduceEq,decide_true,decide_false,if_true,if_false]
 · exact hp.elim
end
end Go.Proofs.Ytmedjkjoannbmaa
namespace Go.Proofs.Ytmedjkjoannbmaa
open Ax
def hasL (s : List UInt8) (c : Int) : Bool := s.any fun b => decide ((b.toNat : Int) = c)
def hasS : zaq
 | [.str s,.w (.int .u8 c)],[] => ⟨s.length ≤ 1000000,.w (.bool (hasL s c)),[]⟩
 | _,_ => zbv
section
set_option maxRecDepth 100000
set_option maxHeartbeats 2000000 in
theorem has22_sound : zbf Try.prog 65 hasS := by
 refine zcm (S := noS) (T := ty) zbj ty_ok zcy Try.func65 (c := Try.f65.body.getD .skip) (by kernel_rfl) (by kernel_rfl) (fun xs pins hp _ => ?_)
 unfold hasS at hp ⊢
 split at hp
 · rename_i s c _
   have hs : s.length ≤ 1000000 := hp
   refine ⟨by simp,?_⟩
   unfold Try.f65
   simp only [go_sem,coe,zaa,Nat.reduceAdd,Nat.reduceSub,Nat.reduceMul,Int.reduceToNat,reduceCtorEq,↓reduceIte,Int.reducePow,Nat.reducePow,Int.reduceMod,Nat.reduceLeDiff,Int.reduceLE,Int.reduceNe,Int.reduceEq,Nat.reduceEqDiff,Nat.reduceLT,Nat.reduceBEq,ty,noS]
   refine zdu ⟨fun m σ => ∃ i : Nat,m = s.length - i ∧ i ≤ s.length ∧ hasL (s.drop i) c = hasL s c ∧
     σ = ⟨[.str s,.w (.int .u8 c),.junk,.junk,.junk,.w (.int .i64 i),.junk,.junk,.junk,.junk,.junk,.junk,.junk,.junk,.junk,.junk,.junk],[],4⟩,?_,?_⟩
   · refine ⟨_,_,zai [0,1,2,3] rfl rfl rfl ?_ ?_,0,rfl,by omega,rfl,rfl⟩
     · simp only [ssT,zao,zap,setSlot,gOf,AV.ren,renL,Blk.ren,Ax.look,Ax.put,reduceCtorEq,↓reduceIte,Nat.reduceEqDiff,Nat.reduceLT,Nat.reduceAdd,List.length_append,List.length_cons,List.length_nil,Option.some.injEq]; try simp
     · simp only [ssT,zao,zap,setSlot,gOf,AV.ren,renL,Blk.ren,Ax.look,Ax.put,reduceCtorEq,↓reduceIte,Nat.reduceEqDiff,Nat.reduceLT,Nat.reduceAdd,List.length_append,List.length_cons,List.length_nil,Option.some.injEq]
   · rintro m σ ⟨i,rfl,hi,hh,rfl⟩
     by_cases hil : i < s.length
     · have d1 : decide ((i : Int) < s.length) = true := decide_eq_true (by omega)
       have e1 : ((i : Int) + 1 + 9223372036854775808) % 18446744073709551616 - 9223372036854775808 = ((i + 1 : Nat) : Int) := by omega
       have eg : s.getD i 0 = s[i] := by simp [hil]
       rw [List.drop_eq_getElem_cons hil] at hh
       have hh : (decide ((s[i].toNat : Int) = c) || hasL (s.drop (i + 1)) c) = hasL s c := hh
       by_cases hc : (s[i].toNat : Int) = c
       · have d2 := decide_eq_true hc
         rw [d2,Bool.true_or] at hh
         rw [← hh]
         simp only [go_sem,coe,zaa,Nat.reduceAdd,Nat.reduceSub,Nat.reduceMul,Int.reduceToNat,reduceCtorEq,↓reduceIte,Int.reducePow,Nat.reducePow,Int.reduceMod,Nat.reduceLeDiff,Int.reduceLE,Int.reduceNe,Int.reduceEq,Nat.reduceEqDiff,Nat.reduceLT,Nat.reduceBEq,ty,noS,d1,eg,d2,Int.toNat_natCast]
         refine ⟨by omega,_,Weak.refl _,?_⟩
         simp only [go_sem,coe,zaa,Nat.reduceAdd,Nat.reduceSub,Nat.reduceMul,Int.reduceToNat,reduceCtorEq,↓reduceIte,Int.reducePow,Nat.reducePow,Int.reduceMod,Nat.reduceLeDiff,Int.reduceLE,Int.reduceNe,Int.reduceEq,Nat.reduceEqDiff,Nat.reduceLT,Nat.reduceBEq,ty,noS]
         exact zas 4 rfl
       · have d2 := decide_eq_false hc
         rw [d2,Bool.false_or] at hh
         simp only [go_sem,coe,zaa,Nat.reduceAdd,Nat.reduceSub,Nat.reduceMul,Int.reduceToNat,reduceCtorEq,↓reduceIte,Int.reducePow,Nat.reducePow,Int.reduceMod,Nat.reduceLeDiff,Int.reduceLE,Int.reduceNe,Int.reduceEq,Nat.reduceEqDiff,Nat.reduceLT,Nat.reduceBEq,ty,noS,d1,eg,d2,e1,Int.toNat_natCast]
         refine ⟨by omega,s.length - (i + 1),_,by omega,zai [0,1,2,3] rfl rfl rfl ?_ ?_,i + 1,rfl,by omega,hh,rfl⟩
         · simp only [ssT,zao,zap,setSlot,gOf,AV.ren,renL,Blk.ren,Ax.look,Ax.put,reduceCtorEq,↓reduceIte,Nat.reduceEqDiff,Nat.reduceLT,Nat.reduceAdd,List.length_append,List.length_cons,List.length_nil,Option.some.injEq]
         · simp only [ssT,zao,zap,setSlot,gOf,AV.ren,renL,Blk.ren,Ax.look,Ax.put,reduceCtorEq,↓reduceIte,Nat.reduceEqDiff,Nat.reduceLT,Nat.reduceAdd,List.length_append,List.length_cons,List.length_nil,Option.some.injEq]
     · have d1 : decide ((i : Int) < s.length) = false := decide_eq_false (by omega)
       rw [List.drop_of_length_le (by omega)] at hh
       have hh : false = hasL s c := hh
       rw [← hh]
       simp only [go_sem,coe,zaa,Nat.reduceAdd,Nat.reduceSub,Nat.reduceMul,Int.reduceToNat,reduceCtorEq,↓reduceIte,Int.reducePow,Nat.reducePow,Int.reduceMod,Nat.reduceLeDiff,Int.reduceLE,Int.reduceNe,Int.reduceEq,Nat.reduceEqDiff,Nat.reduceLT,Nat.reduceBEq,ty,noS,d1]
       refine ⟨_,Weak.refl _,?_⟩
       simp only [go_sem,coe,zaa,Nat.reduceAdd,Nat.reduceSub,Nat.reduceMul,Int.reduceToNat,reduceCtorEq,↓reduceIte,Int.reducePow,Nat.reducePow,Int.reduceMod,Nat.reduceLeDiff,Int.reduceLE,Int.reduceNe,Int.reduceEq,Nat.reduceEqDiff,Nat.reduceLT,Nat.reduceBEq,ty,noS]
       exact zas 4 rfl
 · exact hp.elim
end
theorem hs22_0 : hasL [116] 116 = true ∧ hasL [116] 105 = false ∧ hasL [116] 112 = false ∧ hasL [116] 99 = false ∧ hasL [116] 102 = false ∧ hasL [116] 111 = false ∧ hasL [116] 109 = false ∧ hasL [116] 119 = false ∧ hasL [116] 103 = false ∧ hasL [116] 107 = false ∧ hasL [116] 110 = false := by decide +kernel
theorem hs22_1 : hasL [103,107] 116 = false ∧ hasL [103,107] 105 = false ∧ hasL [103,107] 112 = false ∧ hasL [103,107] 99 = false ∧ hasL [103,107] 102 = false ∧ hasL [103,107] 111 = false ∧ hasL [103,107] 109 = false ∧ hasL [103,107] 119 = false ∧ hasL [103,107] 103 = true ∧ hasL [103,107] 107 = true ∧ hasL [103,107] 110 = false := by decide +kernel
theorem hs22_2 : hasL [103,107,110] 116 = false ∧ hasL [103,107,110] 105 = false ∧ hasL [103,107,110] 112 = false ∧ hasL [103,107,110] 99 = false ∧ hasL [103,107,110] 102 = false ∧ hasL [103,107,110] 111 = false ∧ hasL [103,107,110] 109 = false ∧ hasL [103,107,110] 119 = false ∧ hasL [103,107,110] 103 = true ∧ hasL [103,107,110] 107 = true ∧ hasL [103,107,110] 110 = true := by decide +kernel
theorem hs22_3 : hasL [116,105,103] 116 = true ∧ hasL [116,105,103] 105 = true ∧ hasL [116,105,103] 112 = false ∧ hasL [116,105,103] 99 = false ∧ hasL [116,105,103] 102 = false ∧ hasL [116,105,103] 111 = false ∧ hasL [116,105,103] 109 = false ∧ hasL [116,105,103] 119 = false ∧ hasL [116,105,103] 103 = true ∧ hasL [116,105,103] 107 = false ∧ hasL [116,105,103] 110 = false := by decide +kernel
theorem hs22_4 : hasL [116,105,119] 116 = true ∧ hasL [116,105,119] 105 = true ∧ hasL [116,105,119] 112 = false ∧ hasL [116,105,119] 99 = false ∧ hasL [116,105,119] 102 = false ∧ hasL [116,105,119] 111 = false ∧ hasL [116,105,119] 109 = false ∧ hasL [116,105,119] 119 = true ∧ hasL [116,105,119] 103 = false ∧ hasL [116,105,119] 107 = false ∧ hasL [116,105,119] 110 = false := by decide +kernel
theorem hs22_5 : hasL [116,112,99] 116 = true ∧ hasL [116,112,99] 105 = false ∧ hasL [116,112,99] 112 = true ∧ hasL [116,112,99] 99 = true ∧ hasL [116,112,99] 102 = false ∧ hasL [116,112,99] 111 = false ∧ hasL [116,112,99] 109 = false ∧ hasL [116,112,99] 119 = false ∧ hasL [116,112,99] 103 = false ∧ hasL [116,112,99] 107 = false ∧ hasL [116,112,99] 110 = false := by decide +kernel
theorem hs22_6 : hasL [116,103,107,110] 116 = true ∧ hasL [116,103,107,110] 105 = false ∧ hasL [116,103,107,110] 112 = false ∧ hasL [116,103,107,110] 99 = false ∧ hasL [116,103,107,110] 102 = false ∧ hasL [116,103,107,110] 111 = false ∧ hasL [116,103,107,110] 109 = false ∧ hasL [116,103,107,110] 119 = false ∧ hasL [116,103,107,110] 103 = true ∧ hasL [116,103,107,110] 107 = true ∧ hasL [116,103,107,110] 110 = true := by decide +kernel
theorem hs22_7 : hasL [116,105,102,98] 116 = true ∧ hasL [116,105,102,98] 105 = true ∧ hasL [116,105,102,98] 112 = false ∧ hasL [116,105,102,98] 99 = false ∧ hasL [116,105,102,98] 102 = true ∧ hasL [116,105,102,98] 111 = false ∧ hasL [116,105,102,98] 109 = false ∧ hasL [116,105,102,98] 119 = false ∧ hasL [116,105,102,98] 103 = false ∧ hasL [116,105,102,98] 107 = false ∧ hasL [116,105,102,98] 110 = false := by decide +kernel
theorem hs22_8 : hasL [116,105,111,109] 116 = true ∧ hasL [116,105,111,109] 105 = true ∧ hasL [116,105,111,109] 112 = false ∧ hasL [116,105,111,109] 99 = false ∧ hasL [116,105,111,109] 102 = false ∧ hasL [116,105,111,109] 111 = true ∧ hasL [116,105,111,109] 109 = true ∧ hasL [116,105,111,109] 119 = false ∧ hasL [116,105,111,109] 103 = false ∧ hasL [116,105,111,109] 107 = false ∧ hasL [116,105,111,109] 110 = false := by decide +kernel
theorem hs22_9 : hasL [116,105,111,103,107,110] 116 = true ∧ hasL [116,105,111,103,107,110] 105 = true ∧ hasL [116,105,111,103,107,110] 112 = false ∧ hasL [116,105,111,103,107,110] 99 = false ∧ hasL [116,105,111,103,107,110] 102 = false ∧ hasL [116,105,111,103,107,110] 111 = true ∧ hasL [116,105,111,103,107,110] 109 = false ∧ hasL [116,105,111,103,107,110] 119 = false ∧ hasL [116,105,111,103,107,110] 103 = true ∧ hasL [116,105,111,103,107,110] 107 = true ∧ hasL [116,105,111,103,107,110] 110 = true := by decide +kernel
def zco (f : FuncId) : Option zaq :=
 match f with
 | 15 => some zbh
 | 65 => some hasS
 | _ => none
theorem Sonly22_ok : Fns Try.prog zco := by
 intro f s h
 unfold zco at h
 split at h
 · injection h with h; subst h; exact ⟨⟨_,Try.func15,by kernel_rfl,by kernel_rfl⟩,ruses22_sound⟩
 · injection h with h; subst h; exact ⟨⟨_,Try.func65,by kernel_rfl,by kernel_rfl⟩,has22_sound⟩
 · cases h
def zcd : Plan := fun id => match id with
 | 8 => some [(2,5),(3,5)]
 | 10 => some [(2,5),(3,5)]
 | _ => none
section
set_option maxRecDepth 100000
set_option maxHeartbeats 8000000 in
theorem only22_k0 (t : List UInt8) (i p : Int) (c f : Bool) (o m w : Int) (g mb : List UInt8) (n b1 b2 b3 b4 b5 : Int) (xs : List AV) (fl : Bool) :
   awpF zco ty zcd (Try.f28.body.getD .skip) (zbs ty Try.f28.results.toList [] ⟨True,zcu 0 t i p c f o m w g mb n b1 b2 b3 b4 b5 xs fl,[]⟩) ⟨[.agg [.w (.int .u8 0),.str t,.w (.int .i64 i),.w (.int .i64 p),.w (.bool c),.w (.bool f),.w (.int .i64 o),.w (.int .i64 m),.w (.int .i64 w),.str g,.str mb,.w (.int .i64 n),.w (.int .i64 b1),.w (.int .i64 b2),.w (.int .i64 b3),.w (.int .i64 b4),.w (.int .i64 b5),.sg 6 xs fl]] ++ List.replicate (Try.f28.ntmps - 1) .junk,pinHeap 0 [],4⟩ := by
 unfold Try.f28
 simp only [go_sem,coe,zae,Nat.reduceAdd,Nat.reduceSub,Nat.reduceMul,Int.reduceToNat,reduceCtorEq,↓reduceIte,Int.reducePow,Nat.reducePow,Int.reduceMod,Nat.reduceLeDiff,Int.reduceLE,Int.reduceNe,Int.reduceEq,Nat.reduceEqDiff,Nat.reduceLT,Nat.reduceBEq,List.map_cons,List.map_nil,List.toList_toArray,Array.toList_append,Option.toArray_some,Option.toArray_none,Bool.and_self,ty,zco,zcd,zbh,zat,hasS,fillS,Int.reduceEq,Int.reduceLT,Int.reduceLE,or_self,or_false,false_or,or_true,true_or,if_true,if_false,hs22_5]
 refine ⟨_,Weak.refl _,?_⟩
 simp only [go_sem,coe,zae,Nat.reduceAdd,Nat.reduceSub,Nat.reduceMul,Int.reduceToNat,reduceCtorEq,↓reduceIte,Int.reducePow,Nat.reducePow,Int.reduceMod,Nat.reduceLeDiff,Int.reduceLE,Int.reduceNe,Int.reduceEq,Nat.reduceEqDiff,Nat.reduceLT,Nat.reduceBEq,List.map_cons,List.map_nil,List.toList_toArray,Array.toList_append,Option.toArray_some,Option.toArray_none,Bool.and_self,ty,zcu,Int.reduceEq,Int.reduceLT,Int.reduceLE,or_self,or_false,false_or,or_true,true_or,if_true,if_false]
set_option maxHeartbeats 8000000 in
theorem only22_k1 (t : List UInt8) (i p : Int) (c f : Bool) (o m w : Int) (g mb : List UInt8) (n b1 b2 b3 b4 b5 : Int) (xs : List AV) (fl : Bool) :
   awpF zco ty zcd (Try.f28.body.getD .skip) (zbs ty Try.f28.results.toList [] ⟨True,zcu 1 t i p c f o m w g mb n b1 b2 b3 b4 b5 xs fl,[]⟩) ⟨[.agg [.w (.int .u8 1),.str t,.w (.int .i64 i),.w (.int .i64 p),.w (.bool c),.w (.bool f),.w (.int .i64 o),.w (.int .i64 m),.w (.int .i64 w),.str g,.str mb,.w (.int .i64 n),.w (.int .i64 b1),.w (.int .i64 b2),.w (.int .i64 b3),.w (.int .i64 b4),.w (.int .i64 b5),.sg 6 xs fl]] ++ List.replicate (Try.f28.ntmps - 1) .junk,pinHeap 0 [],4⟩ := by
 unfold Try.f28
 simp only [go_sem,coe,zae,Nat.reduceAdd,Nat.reduceSub,Nat.reduceMul,Int.reduceToNat,reduceCtorEq,↓reduceIte,Int.reducePow,Nat.reducePow,Int.reduceMod,Nat.reduceLeDiff,Int.reduceLE,Int.reduceNe,Int.reduceEq,Nat.reduceEqDiff,Nat.reduceLT,Nat.reduceBEq,List.map_cons,List.map_nil,List.toList_toArray,Array.toList_append,Option.toArray_some,Option.toArray_none,Bool.and_self,ty,zco,zcd,zbh,zat,hasS,fillS,Int.reduceEq,Int.reduceLT,Int.reduceLE,or_self,or_false,false_or,or_true,true_or,if_true,if_false,hs22_0]
 refine ⟨_,Weak.refl _,?_⟩
 simp only [go_sem,coe,zae,Nat.reduceAdd,Nat.reduceSub,Nat.reduceMul,Int.reduceToNat,reduceCtorEq,↓reduceIte,Int.reducePow,Nat.reducePow,Int.reduceMod,Nat.reduceLeDiff,Int.reduceLE,Int.reduceNe,Int.reduceEq,Nat.reduceEqDiff,Nat.reduceLT,Nat.reduceBEq,List.map_cons,List.map_nil,List.toList_toArray,Array.toList_append,Option.toArray_some,Option.toArray_none,Bool.and_self,ty,zcu,Int.reduceEq,Int.reduceLT,Int.reduceLE,or_self,or_false,false_or,or_true,true_or,if_true,if_false]
set_option maxHeartbeats 8000000 in
theorem only22_k2 (t : List UInt8) (i p : Int) (c f : Bool) (o m w : Int) (g mb : List UInt8) (n b1 b2 b3 b4 b5 : Int) (xs : List AV) (fl : Bool) :
   awpF zco ty zcd (Try.f28.body.getD .skip) (zbs ty Try.f28.results.toList [] ⟨True,zcu 2 t i p c f o m w g mb n b1 b2 b3 b4 b5 xs fl,[]⟩) ⟨[.agg [.w (.int .u8 2),.str t,.w (.int .i64 i),.w (.int .i64 p),.w (.bool c),.w (.bool f),.w (.int .i64 o),.w (.int .i64 m),.w (.int .i64 w),.str g,.str mb,.w (.int .i64 n),.w (.int .i64 b1),.w (.int .i64 b2),.w (.int .i64 b3),.w (.int .i64 b4),.w (.int .i64 b5),.sg 6 xs fl]] ++ List.replicate (Try.f28.ntmps - 1) .junk,pinHeap 0 [],4⟩ := by
 unfold Try.f28
 simp only [go_sem,coe,zae,Nat.reduceAdd,Nat.reduceSub,Nat.reduceMul,Int.reduceToNat,reduceCtorEq,↓reduceIte,Int.reducePow,Nat.reducePow,Int.reduceMod,Nat.reduceLeDiff,Int.reduceLE,Int.reduceNe,Int.reduceEq,Nat.reduceEqDiff,Nat.reduceLT,Nat.reduceBEq,List.map_cons,List.map_nil,List.toList_toArray,Array.toList_append,Option.toArray_some,Option.toArray_none,Bool.and_self,ty,zco,zcd,zbh,zat,hasS,fillS,Int.reduceEq,Int.reduceLT,Int.reduceLE,or_self,or_false,false_or,or_true,true_or,if_true,if_false,hs22_0]
 refine ⟨_,Weak.refl _,?_⟩
 simp only [go_sem,coe,zae,Nat.reduceAdd,Nat.reduceSub,Nat.reduceMul,Int.reduceToNat,reduceCtorEq,↓reduceIte,Int.reducePow,Nat.reducePow,Int.reduceMod,Nat.reduceLeDiff,Int.reduceLE,Int.reduceNe,Int.reduceEq,Nat.reduceEqDiff,Nat.reduceLT,Nat.reduceBEq,List.map_cons,List.map_nil,List.toList_toArray,Array.toList_append,Option.toArray_some,Option.toArray_none,Bool.and_self,ty,zcu,Int.reduceEq,Int.reduceLT,Int.reduceLE,or_self,or_false,false_or,or_true,true_or,if_true,if_false]
set_option maxHeartbeats 8000000 in
theorem only22_k3 (t : List UInt8) (i p : Int) (c f : Bool) (o m w : Int) (g mb : List UInt8) (n b1 b2 b3 b4 b5 : Int) (xs : List AV) (fl : Bool) :
   awpF zco ty zcd (Try.f28.body.getD .skip) (zbs ty Try.f28.results.toList [] ⟨True,zcu 3 t i p c f o m w g mb n b1 b2 b3 b4 b5 xs fl,[]⟩) ⟨[.agg [.w (.int .u8 3),.str t,.w (.int .i64 i),.w (.int .i64 p),.w (.bool c),.w (.bool f),.w (.int .i64 o),.w (.int .i64 m),.w (.int .i64 w),.str g,.str mb,.w (.int .i64 n),.w (.int .i64 b1),.w (.int .i64 b2),.w (.int .i64 b3),.w (.int .i64 b4),.w (.int .i64 b5),.sg 6 xs fl]] ++ List.replicate (Try.f28.ntmps - 1) .junk,pinHeap 0 [],4⟩ := by
 unfold Try.f28
 simp only [go_sem,coe,zae,Nat.reduceAdd,Nat.reduceSub,Nat.reduceMul,Int.reduceToNat,reduceCtorEq,↓reduceIte,Int.reducePow,Nat.reducePow,Int.reduceMod,Nat.reduceLeDiff,Int.reduceLE,Int.reduceNe,Int.reduceEq,Nat.reduceEqDiff,Nat.reduceLT,Nat.reduceBEq,List.map_cons,List.map_nil,List.toList_toArray,Array.toList_append,Option.toArray_some,Option.toArray_none,Bool.and_self,ty,zco,zcd,zbh,zat,hasS,fillS,Int.reduceEq,Int.reduceLT,Int.reduceLE,or_self,or_false,false_or,or_true,true_or,if_true,if_false,hs22_7]
 refine ⟨_,Weak.refl _,?_⟩
 simp only [go_sem,coe,zae,Nat.reduceAdd,Nat.reduceSub,Nat.reduceMul,Int.reduceToNat,reduceCtorEq,↓reduceIte,Int.reducePow,Nat.reducePow,Int.reduceMod,Nat.reduceLeDiff,Int.reduceLE,Int.reduceNe,Int.reduceEq,Nat.reduceEqDiff,Nat.reduceLT,Nat.reduceBEq,List.map_cons,List.map_nil,List.toList_toArray,Array.toList_append,Option.toArray_some,Option.toArray_none,Bool.and_self,ty,zcu,Int.reduceEq,Int.reduceLT,Int.reduceLE,or_self,or_false,false_or,or_true,true_or,if_true,if_false]
set_option maxHeartbeats 8000000 in
theorem only22_k4 (t : List UInt8) (i p : Int) (c f : Bool) (o m w : Int) (g mb : List UInt8) (n b1 b2 b3 b4 b5 : Int) (xs : List AV) (fl : Bool) :
   awpF zco ty zcd (Try.f28.body.getD .skip) (zbs ty Try.f28.results.toList [] ⟨True,zcu 4 t i p c f o m w g mb n b1 b2 b3 b4 b5 xs fl,[]⟩) ⟨[.agg [.w (.int .u8 4),.str t,.w (.int .i64 i),.w (.int .i64 p),.w (.bool c),.w (.bool f),.w (.int .i64 o),.w (.int .i64 m),.w (.int .i64 w),.str g,.str mb,.w (.int .i64 n),.w (.int .i64 b1),.w (.int .i64 b2),.w (.int .i64 b3),.w (.int .i64 b4),.w (.int .i64 b5),.sg 6 xs fl]] ++ List.replicate (Try.f28.ntmps - 1) .junk,pinHeap 0 [],4⟩ := by
 unfold Try.f28
 simp only [go_sem,coe,zae,Nat.reduceAdd,Nat.reduceSub,Nat.reduceMul,Int.reduceToNat,reduceCtorEq,↓reduceIte,Int.reducePow,Nat.reducePow,Int.reduceMod,Nat.reduceLeDiff,Int.reduceLE,Int.reduceNe,Int.reduceEq,Nat.reduceEqDiff,Nat.reduceLT,Nat.reduceBEq,List.map_cons,List.map_nil,List.toList_toArray,Array.toList_append,Option.toArray_some,Option.toArray_none,Bool.and_self,ty,zco,zcd,zbh,zat,hasS,fillS,Int.reduceEq,Int.reduceLT,Int.reduceLE,or_self,or_false,false_or,or_true,true_or,if_true,if_false,hs22_8]
 refine ⟨_,Weak.refl _,?_⟩
 simp only [go_sem,coe,zae,Nat.reduceAdd,Nat.reduceSub,Nat.reduceMul,Int.reduceToNat,reduceCtorEq,↓reduceIte,Int.reducePow,Nat.reducePow,Int.reduceMod,Nat.reduceLeDiff,Int.reduceLE,Int.reduceNe,Int.reduceEq,Nat.reduceEqDiff,Nat.reduceLT,Nat.reduceBEq,List.map_cons,List.map_nil,List.toList_toArray,Array.toList_append,Option.toArray_some,Option.toArray_none,Bool.and_self,ty,zcu,Int.reduceEq,Int.reduceLT,Int.reduceLE,or_self,or_false,false_or,or_true,true_or,if_true,if_false]
set_option maxHeartbeats 8000000 in
theorem only22_k5 (t : List UInt8) (i p : Int) (c f : Bool) (o m w : Int) (g mb : List UInt8) (n b1 b2 b3 b4 b5 : Int) (xs : List AV) (fl : Bool) :
   awpF zco ty zcd (Try.f28.body.getD .skip) (zbs ty Try.f28.results.toList [] ⟨True,zcu 5 t i p c f o m w g mb n b1 b2 b3 b4 b5 xs fl,[]⟩) ⟨[.agg [.w (.int .u8 5),.str t,.w (.int .i64 i),.w (.int .i64 p),.w (.bool c),.w (.bool f),.w (.int .i64 o),.w (.int .i64 m),.w (.int .i64 w),.str g,.str mb,.w (.int .i64 n),.w (.int .i64 b1),.w (.int .i64 b2),.w (.int .i64 b3),.w (.int .i64 b4),.w (.int .i64 b5),.sg 6 xs fl]] ++ List.replicate (Try.f28.ntmps - 1) .junk,pinHeap 0 [],4⟩ := by
 unfold Try.f28
 simp only [go_sem,coe,zae,Nat.reduceAdd,Nat.reduceSub,Nat.reduceMul,Int.reduceToNat,reduceCtorEq,↓reduceIte,Int.reducePow,Nat.reducePow,Int.reduceMod,Nat.reduceLeDiff,Int.reduceLE,Int.reduceNe,Int.reduceEq,Nat.reduceEqDiff,Nat.reduceLT,Nat.reduceBEq,List.map_cons,List.map_nil,List.toList_toArray,Array.toList_append,Option.toArray_some,Option.toArray_none,Bool.and_self,ty,zco,zcd,zbh,zat,hasS,fillS,Int.reduceEq,Int.reduceLT,Int.reduceLE,or_self,or_false,false_or,or_true,true_or,if_true,if_false,hs22_4]
 refine ⟨_,Weak.refl _,?_⟩
 simp only [go_sem,coe,zae,Nat.reduceAdd,Nat.reduceSub,Nat.reduceMul,Int.reduceToNat,reduceCtorEq,↓reduceIte,Int.reducePow,Nat.reducePow,Int.reduceMod,Nat.reduceLeDiff,Int.reduceLE,Int.reduceNe,Int.reduceEq,Nat.reduceEqDiff,Nat.reduceLT,Nat.reduceBEq,List.map_cons,List.map_nil,List.toList_toArray,Array.toList_append,Option.toArray_some,Option.toArray_none,Bool.and_self,ty,zcu,Int.reduceEq,Int.reduceLT,Int.reduceLE,or_self,or_false,false_or,or_true,true_or,if_true,if_false]
set_option maxHeartbeats 8000000 in
theorem only22_k6 (t : List UInt8) (i p : Int) (c f : Bool) (o m w : Int) (g mb : List UInt8) (n b1 b2 b3 b4 b5 : Int) (xs : List AV) (fl : Bool) :
   awpF zco ty zcd (Try.f28.body.getD .skip) (zbs ty Try.f28.results.toList [] ⟨True,zcu 6 t i p c f o m w g mb n b1 b2 b3 b4 b5 xs fl,[]⟩) ⟨[.agg [.w (.int .u8 6),.str t,.w (.int .i64 i),.w (.int .i64 p),.w (.bool c),.w (.bool f),.w (.int .i64 o),.w (.int .i64 m),.w (.int .i64 w),.str g,.str mb,.w (.int .i64 n),.w (.int .i64 b1),.w (.int .i64 b2),.w (.int .i64 b3),.w (.int .i64 b4),.w (.int .i64 b5),.sg 6 xs fl]] ++ List.replicate (Try.f28.ntmps - 1) .junk,pinHeap 0 [],4⟩ := by
 unfold Try.f28
 simp only [go_sem,coe,zae,Nat.reduceAdd,Nat.reduceSub,Nat.reduceMul,Int.reduceToNat,reduceCtorEq,↓reduceIte,Int.reducePow,Nat.reducePow,Int.reduceMod,Nat.reduceLeDiff,Int.reduceLE,Int.reduceNe,Int.reduceEq,Nat.reduceEqDiff,Nat.reduceLT,Nat.reduceBEq,List.map_cons,List.map_nil,List.toList_toArray,Array.toList_append,Option.toArray_some,Option.toArray_none,Bool.and_self,ty,zco,zcd,zbh,zat,hasS,fillS,Int.reduceEq,Int.reduceLT,Int.reduceLE,or_self,or_false,false_or,or_true,true_or,if_true,if_false,hs22_1]
 refine ⟨_,Weak.refl _,?_⟩
 simp only [go_sem,coe,zae,Nat.reduceAdd,Nat.reduceSub,Nat.reduceMul,Int.reduceToNat,reduceCtorEq,↓reduceIte,Int.reducePow,Nat.reducePow,Int.reduceMod,Nat.reduceLeDiff,Int.reduceLE,Int.reduceNe,Int.reduceEq,Nat.reduceEqDiff,Nat.reduceLT,Nat.reduceBEq,List.map_cons,List.map_nil,List.toList_toArray,Array.toList_append,Option.toArray_some,Option.toArray_none,Bool.and_self,ty,zcu,Int.reduceEq,Int.reduceLT,Int.reduceLE,or_self,or_false,false_or,or_true,true_or,if_true,if_false]
set_option maxHeartbeats 8000000 in
theorem only22_k7 (t : List UInt8) (i p : Int) (c f : Bool) (o m w : Int) (g mb : List UInt8) (n b1 b2 b3 b4 b5 : Int) (xs : List AV) (fl : Bool) :
   awpF zco ty zcd (Try.f28.body.getD .skip) (zbs ty Try.f28.results.toList [] ⟨True,zcu 7 t i p c f o m w g mb n b1 b2 b3 b4 b5 xs fl,[]⟩) ⟨[.agg [.w (.int .u8 7),.str t,.w (.int .i64 i),.w (.int .i64 p),.w (.bool c),.w (.bool f),.w (.int .i64 o),.w (.int .i64 m),.w (.int .i64 w),.str g,.str mb,.w (.int .i64 n),.w (.int .i64 b1),.w (.int .i64 b2),.w (.int .i64 b3),.w (.int .i64 b4),.w (.int .i64 b5),.sg 6 xs fl]] ++ List.replicate (Try.f28.ntmps - 1) .junk,pinHeap 0 [],4⟩ := by
 unfold Try.f28
 simp only [go_sem,coe,zae,Nat.reduceAdd,Nat.reduceSub,Nat.reduceMul,Int.reduceToNat,reduceCtorEq,↓reduceIte,Int.reducePow,Nat.reducePow,Int.reduceMod,Nat.reduceLeDiff,Int.reduceLE,Int.reduceNe,Int.reduceEq,Nat.reduceEqDiff,Nat.reduceLT,Nat.reduceBEq,List.map_cons,List.map_nil,List.toList_toArray,Array.toList_append,Option.toArray_some,Option.toArray_none,Bool.and_self,ty,zco,zcd,zbh,zat,hasS,fillS,Int.reduceEq,Int.reduceLT,Int.reduceLE,or_self,or_false,false_or,or_true,true_or,if_true,if_false,hs22_6]
 refine ⟨_,Weak.refl _,?_⟩
 simp only [go_sem,coe,zae,Nat.reduceAdd,Nat.reduceSub,Nat.reduceMul,Int.reduceToNat,reduceCtorEq,↓reduceIte,Int.reducePow,Nat.reducePow,Int.reduceMod,Nat.reduceLeDiff,Int.reduceLE,Int.reduceNe,Int.reduceEq,Nat.reduceEqDiff,Nat.reduceLT,Nat.reduceBEq,List.map_cons,List.map_nil,List.toList_toArray,Array.toList_append,Option.toArray_some,Option.toArray_none,Bool.and_self,ty,zcu,Int.reduceEq,Int.reduceLT,Int.reduceLE,or_self,or_false,false_or,or_true,true_or,if_true,if_false]
set_option maxHeartbeats 8000000 in
theorem only22_k8 (t : List UInt8) (i p : Int) (c f : Bool) (o m w : Int) (g mb : List UInt8) (n b1 b2 b3 b4 b5 : Int) (xs : List AV) (fl : Bool) :
   awpF zco ty zcd (Try.f28.body.getD .skip) (zbs ty Try.f28.results.toList [] ⟨True,zcu 8 t i p c f o m w g mb n b1 b2 b3 b4 b5 xs fl,[]⟩) ⟨[.agg [.w (.int .u8 8),.str t,.w (.int .i64 i),.w (.int .i64 p),.w (.bool c),.w (.bool f),.w (.int .i64 o),.w (.int .i64 m),.w (.int .i64 w),.str g,.str mb,.w (.int .i64 n),.w (.int .i64 b1),.w (.int .i64 b2),.w (.int .i64 b3),.w (.int .i64 b4),.w (.int .i64 b5),.sg 6 xs fl]] ++ List.replicate (Try.f28.ntmps - 1) .junk,pinHeap 0 [],4⟩ := by
 unfold Try.f28
 simp only [go_sem,coe,zae,Nat.reduceAdd,Nat.reduceSub,Nat.reduceMul,Int.reduceToNat,reduceCtorEq,↓reduceIte,Int.reducePow,Nat.reducePow,Int.reduceMod,Nat.reduceLeDiff,Int.reduceLE,Int.reduceNe,Int.reduceEq,Nat.reduceEqDiff,Nat.reduceLT,Nat.reduceBEq,List.map_cons,List.map_nil,List.toList_toArray,Array.toList_append,Option.toArray_some,Option.toArray_none,Bool.and_self,ty,zco,zcd,zbh,zat,hasS,fillS,Int.reduceEq,Int.reduceLT,Int.reduceLE,or_self,or_false,false_or,or_true,true_or,if_true,if_false,hs22_2]
 refine ⟨_,Weak.refl _,?_⟩
 simp only [go_sem,coe,zae,Nat.reduceAdd,Nat.reduceSub,Nat.reduceMul,Int.reduceToNat,reduceCtorEq,↓reduceIte,Int.reducePow,Nat.reducePow,Int.reduceMod,Nat.reduceLeDiff,Int.reduceLE,Int.reduceNe,Int.reduceEq,Nat.reduceEqDiff,Nat.reduceLT,Nat.reduceBEq,List.map_cons,List.map_nil,List.toList_toArray,Array.toList_append,Option.toArray_some,Option.toArray_none,Bool.and_self,ty,zcu,Int.reduceEq,Int.reduceLT,Int.reduceLE,or_self,or_false,false_or,or_true,true_or,if_true,if_false]
set_option maxHeartbeats 8000000 in
theorem only22_k9 (t : List UInt8) (i p : Int) (c f : Bool) (o m w : Int) (g mb : List UInt8) (n b1 b2 b3 b4 b5 : Int) (xs : List AV) (fl : Bool) :
   awpF zco ty zcd (Try.f28.body.getD .skip) (zbs ty Try.f28.results.toList [] ⟨True,zcu 9 t i p c f o m w g mb n b1 b2 b3 b4 b5 xs fl,[]⟩) ⟨[.agg [.w (.int .u8 9),.str t,.w (.int .i64 i),.w (.int .i64 p),.w (.bool c),.w (.bool f),.w (.int .i64 o),.w (.int .i64 m),.w (.int .i64 w),.str g,.str mb,.w (.int .i64 n),.w (.int .i64 b1),.w (.int .i64 b2),.w (.int .i64 b3),.w (.int .i64 b4),.w (.int .i64 b5),.sg 6 xs fl]] ++ List.replicate (Try.f28.ntmps - 1) .junk,pinHeap 0 [],4⟩ := by
 unfold Try.f28
 simp only [go_sem,coe,zae,Nat.reduceAdd,Nat.reduceSub,Nat.reduceMul,Int.reduceToNat,reduceCtorEq,↓reduceIte,Int.reducePow,Nat.reducePow,Int.reduceMod,Nat.reduceLeDiff,Int.reduceLE,Int.reduceNe,Int.reduceEq,Nat.reduceEqDiff,Nat.reduceLT,Nat.reduceBEq,List.map_cons,List.map_nil,List.toList_toArray,Array.toList_append,Option.toArray_some,Option.toArray_none,Bool.and_self,ty,zco,zcd,zbh,zat,hasS,fillS,Int.reduceEq,Int.reduceLT,Int.reduceLE,or_self,or_false,false_or,or_true,true_or,if_true,if_false,hs22_1]
 refine ⟨_,Weak.refl _,?_⟩
 simp only [go_sem,coe,zae,Nat.reduceAdd,Nat.reduceSub,Nat.reduceMul,Int.reduceToNat,reduceCtorEq,↓reduceIte,Int.reducePow,Nat.reducePow,Int.reduceMod,Nat.reduceLeDiff,Int.reduceLE,Int.reduceNe,Int.reduceEq,Nat.reduceEqDiff,Nat.reduceLT,Nat.reduceBEq,List.map_cons,List.map_nil,List.toList_toArray,Array.toList_append,Option.toArray_some,Option.toArray_none,Bool.and_self,ty,zcu,Int.reduceEq,Int.reduceLT,Int.reduceLE,or_self,or_false,false_or,or_true,true_or,if_true,if_false]
set_option maxHeartbeats 8000000 in
theorem only22_k10 (t : List UInt8) (i p : Int) (c f : Bool) (o m w : Int) (g mb : List UInt8) (n b1 b2 b3 b4 b5 : Int) (xs : List AV) (fl : Bool) :
   awpF zco ty zcd (Try.f28.body.getD .skip) (zbs ty Try.f28.results.toList [] ⟨True,zcu 10 t i p c f o m w g mb n b1 b2 b3 b4 b5 xs fl,[]⟩) ⟨[.agg [.w (.int .u8 10),.str t,.w (.int .i64 i),.w (.int .i64 p),.w (.bool c),.w (.bool f),.w (.int .i64 o),.w (.int .i64 m),.w (.int .i64 w),.str g,.str mb,.w (.int .i64 n),.w (.int .i64 b1),.w (.int .i64 b2),.w (.int .i64 b3),.w (.int .i64 b4),.w (.int .i64 b5),.sg 6 xs fl]] ++ List.replicate (Try.f28.ntmps - 1) .junk,pinHeap 0 [],4⟩ := by
 unfold Try.f28
 simp only [go_sem,coe,zae,Nat.reduceAdd,Nat.reduceSub,Nat.reduceMul,Int.reduceToNat,reduceCtorEq,↓reduceIte,Int.reducePow,Nat.reducePow,Int.reduceMod,Nat.reduceLeDiff,Int.reduceLE,Int.reduceNe,Int.reduceEq,Nat.reduceEqDiff,Nat.reduceLT,Nat.reduceBEq,List.map_cons,List.map_nil,List.toList_toArray,Array.toList_append,Option.toArray_some,Option.toArray_none,Bool.and_self,ty,zco,zcd,zbh,zat,hasS,fillS,Int.reduceEq,Int.reduceLT,Int.reduceLE,or_self,or_false,false_or,or_true,true_or,if_true,if_false,hs22_9]
 refine ⟨_,Weak.refl _,?_⟩
 simp only [go_sem,coe,zae,Nat.reduceAdd,Nat.reduceSub,Nat.reduceMul,Int.reduceToNat,reduceCtorEq,↓reduceIte,Int.reducePow,Nat.reducePow,Int.reduceMod,Nat.reduceLeDiff,Int.reduceLE,Int.reduceNe,Int.reduceEq,Nat.reduceEqDiff,Nat.reduceLT,Nat.reduceBEq,List.map_cons,List.map_nil,List.toList_toArray,Array.toList_append,Option.toArray_some,Option.toArray_none,Bool.and_self,ty,zcu,Int.reduceEq,Int.reduceLT,Int.reduceLE,or_self,or_false,false_or,or_true,true_or,if_true,if_false]
set_option maxHeartbeats 8000000 in
theorem only22_k11 (t : List UInt8) (i p : Int) (c f : Bool) (o m w : Int) (g mb : List UInt8) (n b1 b2 b3 b4 b5 : Int) (xs : List AV) (fl : Bool) :
   awpF zco ty zcd (Try.f28.body.getD .skip) (zbs ty Try.f28.results.toList [] ⟨True,zcu 11 t i p c f o m w g mb n b1 b2 b3 b4 b5 xs fl,[]⟩) ⟨[.agg [.w (.int .u8 11),.str t,.w (.int .i64 i),.w (.int .i64 p),.w (.bool c),.w (.bool f),.w (.int .i64 o),.w (.int .i64 m),.w (.int .i64 w),.str g,.str mb,.w (.int .i64 n),.w (.int .i64 b1),.w (.int .i64 b2),.w (.int .i64 b3),.w (.int .i64 b4),.w (.int .i64 b5),.sg 6 xs fl]] ++ List.replicate (Try.f28.ntmps - 1) .junk,pinHeap 0 [],4⟩ := by
 unfold Try.f28
 simp only [go_sem,coe,zae,Nat.reduceAdd,Nat.reduceSub,Nat.reduceMul,Int.reduceToNat,reduceCtorEq,↓reduceIte,Int.reducePow,Nat.reducePow,Int.reduceMod,Nat.reduceLeDiff,Int.reduceLE,Int.reduceNe,Int.reduceEq,Nat.reduceEqDiff,Nat.reduceLT,Nat.reduceBEq,List.map_cons,List.map_nil,List.toList_toArray,Array.toList_append,Option.toArray_some,Option.toArray_none,Bool.and_self,ty,zco,zcd,zbh,zat,hasS,fillS,Int.reduceEq,Int.reduceLT,Int.reduceLE,or_self,or_false,false_or,or_true,true_or,if_true,if_false,hs22_3]
 refine ⟨_,Weak.refl _,?_⟩
 simp only [go_sem,coe,zae,Nat.reduceAdd,Nat.reduceSub,Nat.reduceMul,Int.reduceToNat,reduceCtorEq,↓reduceIte,Int.reducePow,Nat.reducePow,Int.reduceMod,Nat.reduceLeDiff,Int.reduceLE,Int.reduceNe,Int.reduceEq,Nat.reduceEqDiff,Nat.reduceLT,Nat.reduceBEq,List.map_cons,List.map_nil,List.toList_toArray,Array.toList_append,Option.toArray_some,Option.toArray_none,Bool.and_self,ty,zcu,Int.reduceEq,Int.reduceLT,Int.reduceLE,or_self,or_false,false_or,or_true,true_or,if_true,if_false]
theorem only22_sound : zbf Try.prog 28 zcj := by
 refine fn_soundF (S := zco) (T := ty) (pl := zcd) zbj ty_ok Sonly22_ok Try.func28 (c := Try.f28.body.getD .skip) (by kernel_rfl) (by kernel_rfl) (fun xs pins hp _ => ?_)
 unfold zcj at hp ⊢
 split at hp
 · rename_i k t i p c f o m w g mb n b1 b2 b3 b4 b5 xs fl _
   have hk : 0 ≤ k ∧ k ≤ 11 := hp
   refine ⟨by simp,?_⟩
   rcases knd_le k hk with rfl | rfl | rfl | rfl | rfl | rfl | rfl | rfl | rfl | rfl | rfl | rfl
   · exact only22_k0 t i p c f o m w g mb n b1 b2 b3 b4 b5 xs fl
   · exact only22_k1 t i p c f o m w g mb n b1 b2 b3 b4 b5 xs fl
   · exact only22_k2 t i p c f o m w g mb n b1 b2 b3 b4 b5 xs fl
   · exact only22_k3 t i p c f o m w g mb n b1 b2 b3 b4 b5 xs fl
   · exact only22_k4 t i p c f o m w g mb n b1 b2 b3 b4 b5 xs fl
   · exact only22_k5 t i p c f o m w g mb n b1 b2 b3 b4 b5 xs fl
   · exact only22_k6 t i p c f o m w g mb n b1 b2 b3 b4 b5 xs fl
   · exact only22_k7 t i p c f o m w g mb n b1 b2 b3 b4 b5 xs fl
   · exact only22_k8 t i p c f o m w g mb n b1 b2 b3 b4 b5 xs fl
   · exact only22_k9 t i p c f o m w g mb n b1 b2 b3 b4 b5 xs fl
   · exact only22_k10 t i p c f o m w g mb n b1 b2 b3 b4 b5 xs fl
   · exact only22_k11 t i p c f o m w g mb n b1 b2 b3 b4 b5 xs fl
 · exact hp.elim
end
end Go.Proofs.Ytmedjkjoannbmaa
namespace Go.Proofs.Ytmedjkjoannbmaa
open Ax
def Srsreq22 (f : FuncId) : Option zaq :=
 match f with
 | 34 => some zfk
 | _ => none
theorem Srsreq22_ok : Fns Try.prog Srsreq22 := by
 intro f s h
 unfold Srsreq22 at h
 split at h
 · injection h with h; subst h; exact ⟨⟨_,Try.func34,by kernel_rfl,by kernel_rfl⟩,rsame4_sound⟩
 · cases h
section
set_option maxRecDepth 100000
set_option maxHeartbeats 8000000 in
theorem rsreq22_sound : zbf Try.prog 13 zdp := by
 refine zcm (S := Srsreq22) (T := ty) zbj ty_ok Srsreq22_ok Try.func13 (c := Try.f13.body.getD .skip) (by kernel_rfl) (by kernel_rfl) (fun xs pins hp _ => ?_)
 unfold zdp at hp ⊢
 split at hp
 · rename_i k t i p c f o m w g mb n b1 b2 b3 b4 b5 xs fl k' t' i' p' c' f' o' m' w' g' mb' n' b1' b2' b3' b4' b5' ys fm _
   obtain ⟨hX,hY1,hY2⟩ := hp
   refine ⟨by simp,?_⟩
   unfold Try.f13
   rcases eqQ_cases k t i p c f o m w g mb n k' t' i' p' c' f' o' m' w' g' mb' n' with D | D | D | D | D | D | D | D | D | D | D | D | D
   all_goals
     simp only [go_sem,coe,zaa,Nat.reduceAdd,Nat.reduceSub,Nat.reduceMul,Int.reduceToNat,reduceCtorEq,↓reduceIte,Int.reducePow,Nat.reducePow,Int.reduceMod,Nat.reduceLeDiff,Int.reduceLE,Int.reduceNe,Int.reduceEq,Nat.reduceEqDiff,Nat.reduceLT,Nat.reduceBEq,ty,Srsreq22,zfk,hX,hY1,hY2,D]
     exact zas 4 rfl
 · exact hp.elim
end
end Go.Proofs.Ytmedjkjoannbmaa
namespace Go.Proofs.Ytmedjkjoannbmaa
open Ax
theorem gx22_0 : (([116] : List UInt8).getD 0 0).toNat = 116 := by decide +kernel
theorem gx22_1 : (([103,107] : List UInt8).getD 0 0).toNat = 103 ∧ (([103,107] : List UInt8).getD 1 0).toNat = 107 := by decide +kernel
theorem gx22_2 : (([103,107,110] : List UInt8).getD 0 0).toNat = 103 ∧ (([103,107,110] : List UInt8).getD 1 0).toNat = 107 ∧ (([103,107,110] : List UInt8).getD 2 0).toNat = 110 := by decide +kernel
theorem gx22_3 : (([116,105,103] : List UInt8).getD 0 0).toNat = 116 ∧ (([116,105,103] : List UInt8).getD 1 0).toNat = 105 ∧ (([116,105,103] : List UInt8).getD 2 0).toNat = 103 := by decide +kernel
theorem gx22_4 : (([116,105,119] : List UInt8).getD 0 0).toNat = 116 ∧ (([116,105,119] : List UInt8).getD 1 0).toNat = 105 ∧ (([116,105,119] : List UInt8).getD 2 0).toNat = 119 := by decide +kernel
theorem gx22_5 : (([116,112,99] : List UInt8).getD 0 0).toNat = 116 ∧ (([116,112,99] : List UInt8).getD 1 0).toNat = 112 ∧ (([116,112,99] : List UInt8).getD 2 0).toNat = 99 := by decide +kernel
theorem gx22_6 : (([116,103,107,110] : List UInt8).getD 0 0).toNat = 116 ∧ (([116,103,107,110] : List UInt8).getD 1 0).toNat = 103 ∧ (([116,103,107,110] : List UInt8).getD 2 0).toNat = 107 ∧ (([116,103,107,110] : List UInt8).getD 3 0).toNat = 110 := by decide +kernel
theorem gx22_7 : (([116,105,102,98] : List UInt8).getD 0 0).toNat = 116 ∧ (([116,105,102,98] : List UInt8).getD 1 0).toNat = 105 ∧ (([116,105,102,98] : List UInt8).getD 2 0).toNat = 102 ∧ (([116,105,102,98] : List UInt8).getD 3 0).toNat = 98 := by decide +kernel
theorem gx22_8 : (([116,105,111,109] : List UInt8).getD 0 0).toNat = 116 ∧ (([116,105,111,109] : List UInt8).getD 1 0).toNat = 105 ∧ (([116,105,111,109] : List UInt8).getD 2 0).toNat = 111 ∧ (([116,105,111,109] : List UInt8).getD 3 0).toNat = 109 := by decide +kernel
theorem gx22_9 : (([116,105,111,103,107,110] : List UInt8).getD 0 0).toNat = 116 ∧ (([116,105,111,103,107,110] : List UInt8).getD 1 0).toNat = 105 ∧ (([116,105,111,103,107,110] : List UInt8).getD 2 0).toNat = 111 ∧ (([116,105,111,103,107,110] : List UInt8).getD 3 0).toNat = 103 ∧ (([116,105,111,103,107,110] : List UInt8).getD 4 0).toNat = 107 ∧ (([116,105,111,103,107,110] : List UInt8).getD 5 0).toNat = 110 := by decide +kernel
def zbz (f : FuncId) : Option zaq :=
 match f with
 | 28 => some zcj
 | 13 => some zdp
 | 29 => some zew
 | 30 => some zcp
 | 31 => some putS
 | 15 => some zbh
 | 32 => some zef
 | _ => none
theorem SrputQ_ok : Fns Try.prog zbz := by
 intro f s h
 unfold zbz at h
 split at h
 · injection h with h; subst h; exact ⟨⟨_,Try.func28,by kernel_rfl,by kernel_rfl⟩,only22_sound⟩
 · injection h with h; subst h; exact ⟨⟨_,Try.func13,by kernel_rfl,by kernel_rfl⟩,rsreq22_sound⟩
 · injection h with h; subst h; exact ⟨⟨_,Try.func29,by kernel_rfl,by kernel_rfl⟩,rput4_sound⟩
 · injection h with h; subst h; exact ⟨⟨_,Try.func30,by kernel_rfl,by kernel_rfl⟩,rtext_sound⟩
 · injection h with h; subst h; exact ⟨⟨_,Try.func31,by kernel_rfl,by kernel_rfl⟩,rput_sound⟩
 · injection h with h; subst h; exact ⟨⟨_,Try.func15,by kernel_rfl,by kernel_rfl⟩,ruses22_sound⟩
 · injection h with h; subst h; exact ⟨⟨_,Try.func32,by kernel_rfl,by kernel_rfl⟩,flag22_sound⟩
 · cases h
end Go.Proofs.Ytmedjkjoannbmaa
