/- What the proofs of this seat stand on; it asks nothing. -/
import Derived.Test.YtmedjkjoannbmaaZa12
set_option linter.unusedSimpArgs false
set_option linter.unusedVariables false
namespace Go.Proofs.Ytmedjkjoannbmaa
open Ax
attribute [go_sem] Blk.fz Blk.fi Blk.fg
theorem frzQ_def {l : List Nat} {sl : List AV} {H : Heap} {K : List AV → Heap → Prop} : frzK l sl H K = ((frzL l (True,sl,H)).1 ∧ K (frzL l (True,sl,H)).2.1 (frzL l (True,sl,H)).2.2) := rfl
attribute [go_sem ↓] frzQ_def
end Go.Proofs.Ytmedjkjoannbmaa
namespace Go.Proofs.Ytmedjkjoannbmaa
open Ax
theorem dc22_0 : (decR [116] 0 = 116 ∧ decW [116] 0 = 1) := by decide +kernel
theorem dc22_1 : (decR [103,107] 0 = 103 ∧ decW [103,107] 0 = 1) ∧ (decR [103,107] 1 = 107 ∧ decW [103,107] 1 = 1) := by decide +kernel
theorem dc22_2 : (decR [103,107,110] 0 = 103 ∧ decW [103,107,110] 0 = 1) ∧ (decR [103,107,110] 1 = 107 ∧ decW [103,107,110] 1 = 1) ∧ (decR [103,107,110] 2 = 110 ∧ decW [103,107,110] 2 = 1) := by decide +kernel
theorem dc22_3 : (decR [116,105,103] 0 = 116 ∧ decW [116,105,103] 0 = 1) ∧ (decR [116,105,103] 1 = 105 ∧ decW [116,105,103] 1 = 1) ∧ (decR [116,105,103] 2 = 103 ∧ decW [116,105,103] 2 = 1) := by decide +kernel
theorem dc22_4 : (decR [116,105,119] 0 = 116 ∧ decW [116,105,119] 0 = 1) ∧ (decR [116,105,119] 1 = 105 ∧ decW [116,105,119] 1 = 1) ∧ (decR [116,105,119] 2 = 119 ∧ decW [116,105,119] 2 = 1) := by decide +kernel
theorem dc22_5 : (decR [116,112,99] 0 = 116 ∧ decW [116,112,99] 0 = 1) ∧ (decR [116,112,99] 1 = 112 ∧ decW [116,112,99] 1 = 1) ∧ (decR [116,112,99] 2 = 99 ∧ decW [116,112,99] 2 = 1) := by decide +kernel
theorem dc22_6 : (decR [116,103,107,110] 0 = 116 ∧ decW [116,103,107,110] 0 = 1) ∧ (decR [116,103,107,110] 1 = 103 ∧ decW [116,103,107,110] 1 = 1) ∧ (decR [116,103,107,110] 2 = 107 ∧ decW [116,103,107,110] 2 = 1) ∧ (decR [116,103,107,110] 3 = 110 ∧ decW [116,103,107,110] 3 = 1) := by decide +kernel
theorem dc22_7 : (decR [116,105,102,98] 0 = 116 ∧ decW [116,105,102,98] 0 = 1) ∧ (decR [116,105,102,98] 1 = 105 ∧ decW [116,105,102,98] 1 = 1) ∧ (decR [116,105,102,98] 2 = 102 ∧ decW [116,105,102,98] 2 = 1) ∧ (decR [116,105,102,98] 3 = 98 ∧ decW [116,105,102,98] 3 = 1) := by decide +kernel
theorem dc22_8 : (decR [116,105,111,109] 0 = 116 ∧ decW [116,105,111,109] 0 = 1) ∧ (decR [116,105,111,109] 1 = 105 ∧ decW [116,105,111,109] 1 = 1) ∧ (decR [116,105,111,109] 2 = 111 ∧ decW [116,105,111,109] 2 = 1) ∧ (decR [116,105,111,109] 3 = 109 ∧ decW [116,105,111,109] 3 = 1) := by decide +kernel
theorem dc22_9 : (decR [116,105,111,103,107,110] 0 = 116 ∧ decW [116,105,111,103,107,110] 0 = 1) ∧ (decR [116,105,111,103,107,110] 1 = 105 ∧ decW [116,105,111,103,107,110] 1 = 1) ∧ (decR [116,105,111,103,107,110] 2 = 111 ∧ decW [116,105,111,103,107,110] 2 = 1) ∧ (decR [116,105,111,103,107,110] 3 = 103 ∧ decW [116,105,111,103,107,110] 3 = 1) ∧ (decR [116,105,111,103,107,110] 4 = 107 ∧ decW [116,105,111,103,107,110] 4 = 1) ∧ (decR [116,105,111,103,107,110] 5 = 110 ∧ decW [116,105,111,103,107,110] 5 = 1) := by decide +kernel
def zcu (k : Int) (t : List UInt8) (i p : Int) (c f : Bool) (o m w : Int) (g mb : List UInt8) (n b1 b2 b3 b4 b5 : Int) (xs : List AV) (fl : Bool) : AV :=
 .agg [.w (.int .u8 k),.str (if k = 0 ∨ k = 1 ∨ k = 2 ∨ k = 3 ∨ k = 4 ∨ k = 5 ∨ k = 7 ∨ k = 10 ∨ k = 11 then t else []),.w (.int .i64 (if k = 3 ∨ k = 4 ∨ k = 5 ∨ k = 10 ∨ k = 11 then i else 0)),.w (.int .i64 (if k = 0 then p else 0)),.w (.bool (if k = 0 then c else false)),.w (.bool (if k = 3 then f else false)),.w (.int .i64 (if k = 4 ∨ k = 10 then o else 0)),.w (.int .i64 (if k = 4 then m else 0)),.w (.int .i64 (if k = 5 then w else 0)),.str (if k = 6 ∨ k = 7 ∨ k = 8 ∨ k = 9 ∨ k = 10 ∨ k = 11 then g else []),.str (if k = 6 ∨ k = 7 ∨ k = 8 ∨ k = 9 ∨ k = 10 then mb else []),.w (.int .i64 (if k = 7 ∨ k = 8 ∨ k = 10 then n else 0)),
   .w (.int .i64 (if k = 3 then b1 else 0)),.w (.int .i64 (if k = 3 then b2 else 0)),.w (.int .i64 (if k = 3 then b3 else 0)),.w (.int .i64 (if k = 3 then b4 else 0)),.w (.int .i64 (if k = 3 then b5 else 0)),.sg 6 (if k = 3 then xs else []) (if k = 3 then fl else true)]
def zcj : zaq
 | [.agg [.w (.int .u8 k),.str t,.w (.int .i64 i),.w (.int .i64 p),.w (.bool c),.w (.bool f),.w (.int .i64 o),.w (.int .i64 m),.w (.int .i64 w),.str g,.str mb,.w (.int .i64 n),.w (.int .i64 b1),.w (.int .i64 b2),.w (.int .i64 b3),.w (.int .i64 b4),.w (.int .i64 b5),.sg 6 xs fl]],[] => ⟨0 ≤ k ∧ k ≤ 11,zcu k t i p c f o m w g mb n b1 b2 b3 b4 b5 xs fl,[]⟩
 | _,_ => zbv
def zbm (f : FuncId) : Option zaq :=
 match f with
 | 14 => some zbh
 | _ => none
theorem Sjust22_ok : Fns Try.prog zbm := by
 intro f s h
 unfold zbm at h
 split at h
 · injection h with h; subst h; exact ⟨⟨_,Try.func14,by kernel_rfl,by kernel_rfl⟩,uses22_sound⟩
 · cases h
def zay (f : FuncId) : Option zaq :=
 match f with
 | 62 => some zfp
 | 63 => some yesO
 | 64 => some zfq
 | _ => none
theorem Ojust22_ok : FnsO Try.prog zay := by
 intro f s h
 unfold zay at h
 split at h
 · injection h with h; subst h; exact ⟨⟨_,Try.func62,by kernel_rfl,by kernel_rfl⟩,text22_sound⟩
 · injection h with h; subst h; exact ⟨⟨_,Try.func63,by kernel_rfl,by kernel_rfl⟩,yes22_sound⟩
 · injection h with h; subst h; exact ⟨⟨_,Try.func64,by kernel_rfl,by kernel_rfl⟩,numb22_sound⟩
 · cases h
def zbe : XPlan := fun id => match id with
 | 5 => .opn [] 1
 | 7 => .opn [] 2
 | 8 => .opn [] 1
 | 10 => .opn [] 2
 | 11 => .opn [] 1
 | 13 => .opn [] 2
 | _ => .std
section
set_option maxRecDepth 100000
set_option maxHeartbeats 8000000 in
theorem just22_k0 (t : List UInt8) (i p : Int) (c f : Bool) (o m w : Int) (g mb : List UInt8) (n b1 b2 b3 b4 b5 : Int) (xs : List AV) (fl : Bool) :
   awpO zbm zay ty zbe (Try.f60.body.getD .skip) (zbs ty Try.f60.results.toList [] ⟨True,zcu 0 t i p c f o m w g mb n b1 b2 b3 b4 b5 xs fl,[]⟩) ⟨[.agg [.w (.int .u8 0),.str t,.w (.int .i64 i),.w (.int .i64 p),.w (.bool c),.w (.bool f),.w (.int .i64 o),.w (.int .i64 m),.w (.int .i64 w),.str g,.str mb,.w (.int .i64 n),.w (.int .i64 b1),.w (.int .i64 b2),.w (.int .i64 b3),.w (.int .i64 b4),.w (.int .i64 b5),.sg 6 xs fl]] ++ List.replicate (Try.f60.ntmps - 1) .junk,pinHeap 0 [],4⟩ := by
 unfold Try.f60
 simp only [go_sem,coe,zab,Nat.reduceAdd,Nat.reduceSub,Nat.reduceMul,Int.reduceToNat,reduceCtorEq,↓reduceIte,Int.reducePow,Nat.reducePow,Int.reduceMod,Nat.reduceLeDiff,Int.reduceLE,Int.reduceNe,Int.reduceEq,Nat.reduceEqDiff,Nat.reduceLT,Nat.reduceBEq,List.map_cons,List.map_nil,List.toList_toArray,Array.toList_append,Option.toArray_some,Option.toArray_none,Bool.and_self,ty,zbm,zay,zbe,zbh,zat,fillS,Int.reduceEq,Int.reduceLT,Int.reduceLE,or_self,or_false,false_or,or_true,true_or,if_true,if_false]
 refine zcf 5 ?_
 simp only [go_sem,coe,zab,Nat.reduceAdd,Nat.reduceSub,Nat.reduceMul,Int.reduceToNat,reduceCtorEq,↓reduceIte,Int.reducePow,Nat.reducePow,Int.reduceMod,Nat.reduceLeDiff,Int.reduceLE,Int.reduceNe,Int.reduceEq,Nat.reduceEqDiff,Nat.reduceLT,Nat.reduceBEq,List.map_cons,List.map_nil,List.toList_toArray,Array.toList_append,Option.toArray_some,Option.toArray_none,Bool.and_self,ty,zbm,zay,zbe,zfp,yesO,zfq,zem,yesF,zec,zdi,zcw,zaf,zal,zar,Int.reduceAdd,Int.reduceSub,Int.cast_ofNat_Int,fillS,Int.reduceEq,Int.reduceLT,Int.reduceLE,or_self,or_false,false_or,or_true,true_or,if_true,if_false,dc22_5]
 refine ⟨_,Weak.refl _,?_⟩
 simp only [go_sem,coe,zab,Nat.reduceAdd,Nat.reduceSub,Nat.reduceMul,Int.reduceToNat,reduceCtorEq,↓reduceIte,Int.reducePow,Nat.reducePow,Int.reduceMod,Nat.reduceLeDiff,Int.reduceLE,Int.reduceNe,Int.reduceEq,Nat.reduceEqDiff,Nat.reduceLT,Nat.reduceBEq,List.map_cons,List.map_nil,List.toList_toArray,Array.toList_append,Option.toArray_some,Option.toArray_none,Bool.and_self,ty,zcu,Int.reduceEq,Int.reduceLT,Int.reduceLE,or_self,or_false,false_or,or_true,true_or,if_true,if_false]
set_option maxHeartbeats 8000000 in
theorem just22_k1 (t : List UInt8) (i p : Int) (c f : Bool) (o m w : Int) (g mb : List UInt8) (n b1 b2 b3 b4 b5 : Int) (xs : List AV) (fl : Bool) :
   awpO zbm zay ty zbe (Try.f60.body.getD .skip) (zbs ty Try.f60.results.toList [] ⟨True,zcu 1 t i p c f o m w g mb n b1 b2 b3 b4 b5 xs fl,[]⟩) ⟨[.agg [.w (.int .u8 1),.str t,.w (.int .i64 i),.w (.int .i64 p),.w (.bool c),.w (.bool f),.w (.int .i64 o),.w (.int .i64 m),.w (.int .i64 w),.str g,.str mb,.w (.int .i64 n),.w (.int .i64 b1),.w (.int .i64 b2),.w (.int .i64 b3),.w (.int .i64 b4),.w (.int .i64 b5),.sg 6 xs fl]] ++ List.replicate (Try.f60.ntmps - 1) .junk,pinHeap 0 [],4⟩ := by
 unfold Try.f60
 simp only [go_sem,coe,zab,Nat.reduceAdd,Nat.reduceSub,Nat.reduceMul,Int.reduceToNat,reduceCtorEq,↓reduceIte,Int.reducePow,Nat.reducePow,Int.reduceMod,Nat.reduceLeDiff,Int.reduceLE,Int.reduceNe,Int.reduceEq,Nat.reduceEqDiff,Nat.reduceLT,Nat.reduceBEq,List.map_cons,List.map_nil,List.toList_toArray,Array.toList_append,Option.toArray_some,Option.toArray_none,Bool.and_self,ty,zbm,zay,zbe,zbh,zat,fillS,Int.reduceEq,Int.reduceLT,Int.reduceLE,or_self,or_false,false_or,or_true,true_or,if_true,if_false]
 refine zcf 3 ?_
 simp only [go_sem,coe,zab,Nat.reduceAdd,Nat.reduceSub,Nat.reduceMul,Int.reduceToNat,reduceCtorEq,↓reduceIte,Int.reducePow,Nat.reducePow,Int.reduceMod,Nat.reduceLeDiff,Int.reduceLE,Int.reduceNe,Int.reduceEq,Nat.reduceEqDiff,Nat.reduceLT,Nat.reduceBEq,List.map_cons,List.map_nil,List.toList_toArray,Array.toList_append,Option.toArray_some,Option.toArray_none,Bool.and_self,ty,zbm,zay,zbe,zfp,yesO,zfq,zem,yesF,zec,zdi,zcw,zaf,zal,zar,Int.reduceAdd,Int.reduceSub,Int.cast_ofNat_Int,fillS,Int.reduceEq,Int.reduceLT,Int.reduceLE,or_self,or_false,false_or,or_true,true_or,if_true,if_false,dc22_0]
 refine ⟨_,Weak.refl _,?_⟩
 simp only [go_sem,coe,zab,Nat.reduceAdd,Nat.reduceSub,Nat.reduceMul,Int.reduceToNat,reduceCtorEq,↓reduceIte,Int.reducePow,Nat.reducePow,Int.reduceMod,Nat.reduceLeDiff,Int.reduceLE,Int.reduceNe,Int.reduceEq,Nat.reduceEqDiff,Nat.reduceLT,Nat.reduceBEq,List.map_cons,List.map_nil,List.toList_toArray,Array.toList_append,Option.toArray_some,Option.toArray_none,Bool.and_self,ty,zcu,Int.reduceEq,Int.reduceLT,Int.reduceLE,or_self,or_false,false_or,or_true,true_or,if_true,if_false]
set_option maxHeartbeats 8000000 in
theorem just22_k2 (t : List UInt8) (i p : Int) (c f : Bool) (o m w : Int) (g mb : List UInt8) (n b1 b2 b3 b4 b5 : Int) (xs : List AV) (fl : Bool) :
   awpO zbm zay ty zbe (Try.f60.body.getD .skip) (zbs ty Try.f60.results.toList [] ⟨True,zcu 2 t i p c f o m w g mb n b1 b2 b3 b4 b5 xs fl,[]⟩) ⟨[.agg [.w (.int .u8 2),.str t,.w (.int .i64 i),.w (.int .i64 p),.w (.bool c),.w (.bool f),.w (.int .i64 o),.w (.int .i64 m),.w (.int .i64 w),.str g,.str mb,.w (.int .i64 n),.w (.int .i64 b1),.w (.int .i64 b2),.w (.int .i64 b3),.w (.int .i64 b4),.w (.int .i64 b5),.sg 6 xs fl]] ++ List.replicate (Try.f60.ntmps - 1) .junk,pinHeap 0 [],4⟩ := by
 unfold Try.f60
 simp only [go_sem,coe,zab,Nat.reduceAdd,Nat.reduceSub,Nat.reduceMul,Int.reduceToNat,reduceCtorEq,↓reduceIte,Int.reducePow,Nat.reducePow,Int.reduceMod,Nat.reduceLeDiff,Int.reduceLE,Int.reduceNe,Int.reduceEq,Nat.reduceEqDiff,Nat.reduceLT,Nat.reduceBEq,List.map_cons,List.map_nil,List.toList_toArray,Array.toList_append,Option.toArray_some,Option.toArray_none,Bool.and_self,ty,zbm,zay,zbe,zbh,zat,fillS,Int.reduceEq,Int.reduceLT,Int.reduceLE,or_self,or_false,false_or,or_true,true_or,if_true,if_false]
 refine zcf 3 ?_
 simp only [go_sem,coe,zab,Nat.reduceAdd,Nat.reduceSub,Nat.reduceMul,Int.reduceToNat,reduceCtorEq,↓reduceIte,Int.reducePow,Nat.reducePow,Int.reduceMod,Nat.reduceLeDiff,Int.reduceLE,Int.reduceNe,Int.reduceEq,Nat.reduceEqDiff,Nat.reduceLT,Nat.reduceBEq,List.map_cons,List.map_nil,List.toList_toArray,Array.toList_append,Option.toArray_some,Option.toArray_none,Bool.and_self,ty,zbm,zay,zbe,zfp,yesO,zfq,zem,yesF,zec,zdi,zcw,zaf,zal,zar,Int.reduceAdd,Int.reduceSub,Int.cast_ofNat_Int,fillS,Int.reduceEq,Int.reduceLT,Int.reduceLE,or_self,or_false,false_or,or_true,true_or,if_true,if_false,dc22_0]
 refine ⟨_,Weak.refl _,?_⟩
 simp only [go_sem,coe,zab,Nat.reduceAdd,Nat.reduceSub,Nat.reduceMul,Int.reduceToNat,reduceCtorEq,↓reduceIte,Int.reducePow,Nat.reducePow,Int.reduceMod,Nat.reduceLeDiff,Int.reduceLE,Int.reduceNe,Int.reduceEq,Nat.reduceEqDiff,Nat.reduceLT,Nat.reduceBEq,List.map_cons,List.map_nil,List.toList_toArray,Array.toList_append,Option.toArray_some,Option.toArray_none,Bool.and_self,ty,zcu,Int.reduceEq,Int.reduceLT,Int.reduceLE,or_self,or_false,false_or,or_true,true_or,if_true,if_false]
set_option maxHeartbeats 8000000 in
theorem just22_k3 (t : List UInt8) (i p : Int) (c f : Bool) (o m w : Int) (g mb : List UInt8) (n b1 b2 b3 b4 b5 : Int) (xs : List AV) (fl : Bool) :
   awpO zbm zay ty zbe (Try.f60.body.getD .skip) (zbs ty Try.f60.results.toList [] ⟨True,zcu 3 t i p c f o m w g mb n b1 b2 b3 b4 b5 xs fl,[]⟩) ⟨[.agg [.w (.int .u8 3),.str t,.w (.int .i64 i),.w (.int .i64 p),.w (.bool c),.w (.bool f),.w (.int .i64 o),.w (.int .i64 m),.w (.int .i64 w),.str g,.str mb,.w (.int .i64 n),.w (.int .i64 b1),.w (.int .i64 b2),.w (.int .i64 b3),.w (.int .i64 b4),.w (.int .i64 b5),.sg 6 xs fl]] ++ List.replicate (Try.f60.ntmps - 1) .junk,pinHeap 0 [],4⟩ := by
 unfold Try.f60
 simp only [go_sem,coe,zab,Nat.reduceAdd,Nat.reduceSub,Nat.reduceMul,Int.reduceToNat,reduceCtorEq,↓reduceIte,Int.reducePow,Nat.reducePow,Int.reduceMod,Nat.reduceLeDiff,Int.reduceLE,Int.reduceNe,Int.reduceEq,Nat.reduceEqDiff,Nat.reduceLT,Nat.reduceBEq,List.map_cons,List.map_nil,List.toList_toArray,Array.toList_append,Option.toArray_some,Option.toArray_none,Bool.and_self,ty,zbm,zay,zbe,zbh,zat,fillS,Int.reduceEq,Int.reduceLT,Int.reduceLE,or_self,or_false,false_or,or_true,true_or,if_true,if_false]
 refine zcf 6 ?_
 simp only [go_sem,coe,zab,Nat.reduceAdd,Nat.reduceSub,Nat.reduceMul,Int.reduceToNat,reduceCtorEq,↓reduceIte,Int.reducePow,Nat.reducePow,Int.reduceMod,Nat.reduceLeDiff,Int.reduceLE,Int.reduceNe,Int.reduceEq,Nat.reduceEqDiff,Nat.reduceLT,Nat.reduceBEq,List.map_cons,List.map_nil,List.toList_toArray,Array.toList_append,Option.toArray_some,Option.toArray_none,Bool.and_self,ty,zbm,zay,zbe,zfp,yesO,zfq,zem,yesF,zec,zdi,zcw,zaf,zal,zar,Int.reduceAdd,Int.reduceSub,Int.cast_ofNat_Int,fillS,Int.reduceEq,Int.reduceLT,Int.reduceLE,or_self,or_false,false_or,or_true,true_or,if_true,if_false,dc22_7]
 refine ⟨_,Weak.refl _,?_⟩
 simp only [go_sem,coe,zab,Nat.reduceAdd,Nat.reduceSub,Nat.reduceMul,Int.reduceToNat,reduceCtorEq,↓reduceIte,Int.reducePow,Nat.reducePow,Int.reduceMod,Nat.reduceLeDiff,Int.reduceLE,Int.reduceNe,Int.reduceEq,Nat.reduceEqDiff,Nat.reduceLT,Nat.reduceBEq,List.map_cons,List.map_nil,List.toList_toArray,Array.toList_append,Option.toArray_some,Option.toArray_none,Bool.and_self,ty,zcu,Int.reduceEq,Int.reduceLT,Int.reduceLE,or_self,or_false,false_or,or_true,true_or,if_true,if_false]
set_option maxHeartbeats 8000000 in
theorem just22_k4 (t : List UInt8) (i p : Int) (c f : Bool) (o m w : Int) (g mb : List UInt8) (n b1 b2 b3 b4 b5 : Int) (xs : List AV) (fl : Bool) :
   awpO zbm zay ty zbe (Try.f60.body.getD .skip) (zbs ty Try.f60.results.toList [] ⟨True,zcu 4 t i p c f o m w g mb n b1 b2 b3 b4 b5 xs fl,[]⟩) ⟨[.agg [.w (.int .u8 4),.str t,.w (.int .i64 i),.w (.int .i64 p),.w (.bool c),.w (.bool f),.w (.int .i64 o),.w (.int .i64 m),.w (.int .i64 w),.str g,.str mb,.w (.int .i64 n),.w (.int .i64 b1),.w (.int .i64 b2),.w (.int .i64 b3),.w (.int .i64 b4),.w (.int .i64 b5),.sg 6 xs fl]] ++ List.replicate (Try.f60.ntmps - 1) .junk,pinHeap 0 [],4⟩ := by
 unfold Try.f60
 simp only [go_sem,coe,zab,Nat.reduceAdd,Nat.reduceSub,Nat.reduceMul,Int.reduceToNat,reduceCtorEq,↓reduceIte,Int.reducePow,Nat.reducePow,Int.reduceMod,Nat.reduceLeDiff,Int.reduceLE,Int.reduceNe,Int.reduceEq,Nat.reduceEqDiff,Nat.reduceLT,Nat.reduceBEq,List.map_cons,List.map_nil,List.toList_toArray,Array.toList_append,Option.toArray_some,Option.toArray_none,Bool.and_self,ty,zbm,zay,zbe,zbh,zat,fillS,Int.reduceEq,Int.reduceLT,Int.reduceLE,or_self,or_false,false_or,or_true,true_or,if_true,if_false]
 refine zcf 6 ?_
 simp only [go_sem,coe,zab,Nat.reduceAdd,Nat.reduceSub,Nat.reduceMul,Int.reduceToNat,reduceCtorEq,↓reduceIte,Int.reducePow,Nat.reducePow,Int.reduceMod,Nat.reduceLeDiff,Int.reduceLE,Int.reduceNe,Int.reduceEq,Nat.reduceEqDiff,Nat.reduceLT,Nat.reduceBEq,List.map_cons,List.map_nil,List.toList_toArray,Array.toList_append,Option.toArray_some,Option.toArray_none,Bool.and_self,ty,zbm,zay,zbe,zfp,yesO,zfq,zem,yesF,zec,zdi,zcw,zaf,zal,zar,Int.reduceAdd,Int.reduceSub,Int.cast_ofNat_Int,fillS,Int.reduceEq,Int.reduceLT,Int.reduceLE,or_self,or_false,false_or,or_true,true_or,if_true,if_false,dc22_8]
 refine ⟨_,Weak.refl _,?_⟩
 simp only [go_sem,coe,zab,Nat.reduceAdd,Nat.reduceSub,Nat.reduceMul,Int.reduceToNat,reduceCtorEq,↓reduceIte,Int.reducePow,Nat.reducePow,Int.reduceMod,Nat.reduceLeDiff,Int.reduceLE,Int.reduceNe,Int.reduceEq,Nat.reduceEqDiff,Nat.reduceLT,Nat.reduceBEq,List.map_cons,List.map_nil,List.toList_toArray,Array.toList_append,Option.toArray_some,Option.toArray_none,Bool.and_self,ty,zcu,Int.reduceEq,Int.reduceLT,Int.reduceLE,or_self,or_false,false_or,or_true,true_or,if_true,if_false]
set_option maxHeartbeats 8000000 in
theorem just22_k5 (t : List UInt8) (i p : Int) (c f : Bool) (o m w : Int) (g mb : List UInt8) (n b1 b2 b3 b4 b5 : Int) (xs : List AV) (fl : Bool) :
   awpO zbm zay ty zbe (Try.f60.body.getD .skip) (zbs ty Try.f60.results.toList [] ⟨True,zcu 5 t i p c f o m w g mb n b1 b2 b3 b4 b5 xs fl,[]⟩) ⟨[.agg [.w (.int .u8 5),.str t,.w (.int .i64 i),.w (.int .i64 p),.w (.bool c),.w (.bool f),.w (.int .i64 o),.w (.int .i64 m),.w (.int .i64 w),.str g,.str mb,.w (.int .i64 n),.w (.int .i64 b1),.w (.int .i64 b2),.w (.int .i64 b3),.w (.int .i64 b4),.w (.int .i64 b5),.sg 6 xs fl]] ++ List.replicate (Try.f60.ntmps - 1) .junk,pinHeap 0 [],4⟩ := by
 unfold Try.f60
 simp only [go_sem,coe,zab,Nat.reduceAdd,Nat.reduceSub,Nat.reduceMul,Int.reduceToNat,reduceCtorEq,↓reduceIte,Int.reducePow,Nat.reducePow,Int.reduceMod,Nat.reduceLeDiff,Int.reduceLE,Int.reduceNe,Int.reduceEq,Nat.reduceEqDiff,Nat.reduceLT,Nat.reduceBEq,List.map_cons,List.map_nil,List.toList_toArray,Array.toList_append,Option.toArray_some,Option.toArray_none,Bool.and_self,ty,zbm,zay,zbe,zbh,zat,fillS,Int.reduceEq,Int.reduceLT,Int.reduceLE,or_self,or_false,false_or,or_true,true_or,if_true,if_false]
 refine zcf 5 ?_
 simp only [go_sem,coe,zab,Nat.reduceAdd,Nat.reduceSub,Nat.reduceMul,Int.reduceToNat,reduceCtorEq,↓reduceIte,Int.reducePow,Nat.reducePow,Int.reduceMod,Nat.reduceLeDiff,Int.reduceLE,Int.reduceNe,Int.reduceEq,Nat.reduceEqDiff,Nat.reduceLT,Nat.reduceBEq,List.map_cons,List.map_nil,List.toList_toArray,Array.toList_append,Option.toArray_some,Option.toArray_none,Bool.and_self,ty,zbm,zay,zbe,zfp,yesO,zfq,zem,yesF,zec,zdi,zcw,zaf,zal,zar,Int.reduceAdd,Int.reduceSub,Int.cast_ofNat_Int,fillS,Int.reduceEq,Int.reduceLT,Int.reduceLE,or_self,or_false,false_or,or_true,true_or,if_true,if_false,dc22_4]
 refine ⟨_,Weak.refl _,?_⟩
 simp only [go_sem,coe,zab,Nat.reduceAdd,Nat.reduceSub,Nat.reduceMul,Int.reduceToNat,reduceCtorEq,↓reduceIte,Int.reducePow,Nat.reducePow,Int.reduceMod,Nat.reduceLeDiff,Int.reduceLE,Int.reduceNe,Int.reduceEq,Nat.reduceEqDiff,Nat.reduceLT,Nat.reduceBEq,List.map_cons,List.map_nil,List.toList_toArray,Array.toList_append,Option.toArray_some,Option.toArray_none,Bool.and_self,ty,zcu,Int.reduceEq,Int.reduceLT,Int.reduceLE,or_self,or_false,false_or,or_true,true_or,if_true,if_false]
set_option maxHeartbeats 8000000 in
theorem just22_k6 (t : List UInt8) (i p : Int) (c f : Bool) (o m w : Int) (g mb : List UInt8) (n b1 b2 b3 b4 b5 : Int) (xs : List AV) (fl : Bool) :
   awpO zbm zay ty zbe (Try.f60.body.getD .skip) (zbs ty Try.f60.results.toList [] ⟨True,zcu 6 t i p c f o m w g mb n b1 b2 b3 b4 b5 xs fl,[]⟩) ⟨[.agg [.w (.int .u8 6),.str t,.w (.int .i64 i),.w (.int .i64 p),.w (.bool c),.w (.bool f),.w (.int .i64 o),.w (.int .i64 m),.w (.int .i64 w),.str g,.str mb,.w (.int .i64 n),.w (.int .i64 b1),.w (.int .i64 b2),.w (.int .i64 b3),.w (.int .i64 b4),.w (.int .i64 b5),.sg 6 xs fl]] ++ List.replicate (Try.f60.ntmps - 1) .junk,pinHeap 0 [],4⟩ := by
 unfold Try.f60
 simp only [go_sem,coe,zab,Nat.reduceAdd,Nat.reduceSub,Nat.reduceMul,Int.reduceToNat,reduceCtorEq,↓reduceIte,Int.reducePow,Nat.reducePow,Int.reduceMod,Nat.reduceLeDiff,Int.reduceLE,Int.reduceNe,Int.reduceEq,Nat.reduceEqDiff,Nat.reduceLT,Nat.reduceBEq,List.map_cons,List.map_nil,List.toList_toArray,Array.toList_append,Option.toArray_some,Option.toArray_none,Bool.and_self,ty,zbm,zay,zbe,zbh,zat,fillS,Int.reduceEq,Int.reduceLT,Int.reduceLE,or_self,or_false,false_or,or_true,true_or,if_true,if_false]
 refine zcf 4 ?_
 simp only [go_sem,coe,zab,Nat.reduceAdd,Nat.reduceSub,Nat.reduceMul,Int.reduceToNat,reduceCtorEq,↓reduceIte,Int.reducePow,Nat.reducePow,Int.reduceMod,Nat.reduceLeDiff,Int.reduceLE,Int.reduceNe,Int.reduceEq,Nat.reduceEqDiff,Nat.reduceLT,Nat.reduceBEq,List.map_cons,List.map_nil,List.toList_toArray,Array.toList_append,Option.toArray_some,Option.toArray_none,Bool.and_self,ty,zbm,zay,zbe,zfp,yesO,zfq,zem,yesF,zec,zdi,zcw,zaf,zal,zar,Int.reduceAdd,Int.reduceSub,Int.cast_ofNat_Int,fillS,Int.reduceEq,Int.reduceLT,Int.reduceLE,or_self,or_false,false_or,or_true,true_or,if_true,if_false,dc22_1]
 refine ⟨_,Weak.refl _,?_⟩
 simp only [go_sem,coe,zab,Nat.reduceAdd,Nat.reduceSub,Nat.reduceMul,Int.reduceToNat,reduceCtorEq,↓reduceIte,Int.reducePow,Nat.reducePow,Int.reduceMod,Nat.reduceLeDiff,Int.reduceLE,Int.reduceNe,Int.reduceEq,Nat.reduceEqDiff,Nat.reduceLT,Nat.reduceBEq,List.map_cons,List.map_nil,List.toList_toArray,Array.toList_append,Option.toArray_some,Option.toArray_none,Bool.and_self,ty,zcu,Int.reduceEq,Int.reduceLT,Int.reduceLE,or_self,or_false,false_or,or_true,true_or,if_true,if_false]
set_option maxHeartbeats 8000000 in
theorem just22_k7 (t : List UInt8) (i p : Int) (c f : Bool) (o m w : Int) (g mb : List UInt8) (n b1 b2 b3 b4 b5 : Int) (xs : List AV) (fl : Bool) :
   awpO zbm zay ty zbe (Try.f60.body.getD .skip) (zbs ty Try.f60.results.toList [] ⟨True,zcu 7 t i p c f o m w g mb n b1 b2 b3 b4 b5 xs fl,[]⟩) ⟨[.agg [.w (.int .u8 7),.str t,.w (.int .i64 i),.w (.int .i64 p),.w (.bool c),.w (.bool f),.w (.int .i64 o),.w (.int .i64 m),.w (.int .i64 w),.str g,.str mb,.w (.int .i64 n),.w (.int .i64 b1),.w (.int .i64 b2),.w (.int .i64 b3),.w (.int .i64 b4),.w (.int .i64 b5),.sg 6 xs fl]] ++ List.replicate (Try.f60.ntmps - 1) .junk,pinHeap 0 [],4⟩ := by
 unfold Try.f60
 simp only [go_sem,coe,zab,Nat.reduceAdd,Nat.reduceSub,Nat.reduceMul,Int.reduceToNat,reduceCtorEq,↓reduceIte,Int.reducePow,Nat.reducePow,Int.reduceMod,Nat.reduceLeDiff,Int.reduceLE,Int.reduceNe,Int.reduceEq,Nat.reduceEqDiff,Nat.reduceLT,Nat.reduceBEq,List.map_cons,List.map_nil,List.toList_toArray,Array.toList_append,Option.toArray_some,Option.toArray_none,Bool.and_self,ty,zbm,zay,zbe,zbh,zat,fillS,Int.reduceEq,Int.reduceLT,Int.reduceLE,or_self,or_false,false_or,or_true,true_or,if_true,if_false]
 refine zcf 6 ?_
 simp only [go_sem,coe,zab,Nat.reduceAdd,Nat.reduceSub,Nat.reduceMul,Int.reduceToNat,reduceCtorEq,↓reduceIte,Int.reducePow,Nat.reducePow,Int.reduceMod,Nat.reduceLeDiff,Int.reduceLE,Int.reduceNe,Int.reduceEq,Nat.reduceEqDiff,Nat.reduceLT,Nat.reduceBEq,List.map_cons,List.map_nil,List.toList_toArray,Array.toList_append,Option.toArray_some,Option.toArray_none,Bool.and_self,ty,zbm,zay,zbe,zfp,yesO,zfq,zem,yesF,zec,zdi,zcw,zaf,zal,zar,Int.reduceAdd,Int.reduceSub,Int.cast_ofNat_Int,fillS,Int.reduceEq,Int.reduceLT,Int.reduceLE,or_self,or_false,false_or,or_true,true_or,if_true,if_false,dc22_6]
 refine ⟨_,Weak.refl _,?_⟩
 simp only [go_sem,coe,zab,Nat.reduceAdd,Nat.reduceSub,Nat.reduceMul,Int.reduceToNat,reduceCtorEq,↓reduceIte,Int.reducePow,Nat.reducePow,Int.reduceMod,Nat.reduceLeDiff,Int.reduceLE,Int.reduceNe,Int.reduceEq,Nat.reduceEqDiff,Nat.reduceLT,Nat.reduceBEq,List.map_cons,List.map_nil,List.toList_toArray,Array.toList_append,Option.toArray_some,Option.toArray_none,Bool.and_self,ty,zcu,Int.reduceEq,Int.reduceLT,Int.reduceLE,or_self,or_false,false_or,or_true,true_or,if_true,if_false]
set_option maxHeartbeats 8000000 in
theorem just22_k8 (t : List UInt8) (i p : Int) (c f : Bool) (o m w : Int) (g mb : List UInt8) (n b1 b2 b3 b4 b5 : Int) (xs : List AV) (fl : Bool) :
   awpO zbm zay ty zbe (Try.f60.body.getD .skip) (zbs ty Try.f60.results.toList [] ⟨True,zcu 8 t i p c f o m w g mb n b1 b2 b3 b4 b5 xs fl,[]⟩) ⟨[.agg [.w (.int .u8 8),.str t,.w (.int .i64 i),.w (.int .i64 p),.w (.bool c),.w (.bool f),.w (.int .i64 o),.w (.int .i64 m),.w (.int .i64 w),.str g,.str mb,.w (.int .i64 n),.w (.int .i64 b1),.w (.int .i64 b2),.w (.int .i64 b3),.w (.int .i64 b4),.w (.int .i64 b5),.sg 6 xs fl]] ++ List.replicate (Try.f60.ntmps - 1) .junk,pinHeap 0 [],4⟩ := by
 unfold Try.f60
 simp only [go_sem,coe,zab,Nat.reduceAdd,Nat.reduceSub,Nat.reduceMul,Int.reduceToNat,reduceCtorEq,↓reduceIte,Int.reducePow,Nat.reducePow,Int.reduceMod,Nat.reduceLeDiff,Int.reduceLE,Int.reduceNe,Int.reduceEq,Nat.reduceEqDiff,Nat.reduceLT,Nat.reduceBEq,List.map_cons,List.map_nil,List.toList_toArray,Array.toList_append,Option.toArray_some,Option.toArray_none,Bool.and_self,ty,zbm,zay,zbe,zbh,zat,fillS,Int.reduceEq,Int.reduceLT,Int.reduceLE,or_self,or_false,false_or,or_true,true_or,if_true,if_false]
 refine zcf 5 ?_
 simp only [go_sem,coe,zab,Nat.reduceAdd,Nat.reduceSub,Nat.reduceMul,Int.reduceToNat,reduceCtorEq,↓reduceIte,Int.reducePow,Nat.reducePow,Int.reduceMod,Nat.reduceLeDiff,Int.reduceLE,Int.reduceNe,Int.reduceEq,Nat.reduceEqDiff,Nat.reduceLT,Nat.reduceBEq,List.map_cons,List.map_nil,List.toList_toArray,Array.toList_append,Option.toArray_some,Option.toArray_none,Bool.and_self,ty,zbm,zay,zbe,zfp,yesO,zfq,zem,yesF,zec,zdi,zcw,zaf,zal,zar,Int.reduceAdd,Int.reduceSub,Int.cast_ofNat_Int,fillS,Int.reduceEq,Int.reduceLT,Int.reduceLE,or_self,or_false,false_or,or_true,true_or,if_true,if_false,dc22_2]
 refine ⟨_,Weak.refl _,?_⟩
 simp only [go_sem,coe,zab,Nat.reduceAdd,Nat.reduceSub,Nat.reduceMul,Int.reduceToNat,reduceCtorEq,↓reduceIte,Int.reducePow,Nat.reducePow,Int.reduceMod,Nat.reduceLeDiff,Int.reduceLE,Int.reduceNe,Int.reduceEq,Nat.reduceEqDiff,Nat.reduceLT,Nat.reduceBEq,List.map_cons,List.map_nil,List.toList_toArray,Array.toList_append,Option.toArray_some,Option.toArray_none,Bool.and_self,ty,zcu,Int.reduceEq,Int.reduceLT,Int.reduceLE,or_self,or_false,false_or,or_true,true_or,if_true,if_false]
set_option maxHeartbeats 8000000 in
theorem just22_k9 (t : List UInt8) (i p : Int) (c f : Bool) (o m w : Int) (g mb : List UInt8) (n b1 b2 b3 b4 b5 : Int) (xs : List AV) (fl : Bool) :
   awpO zbm zay ty zbe (Try.f60.body.getD .skip) (zbs ty Try.f60.results.toList [] ⟨True,zcu 9 t i p c f o m w g mb n b1 b2 b3 b4 b5 xs fl,[]⟩) ⟨[.agg [.w (.int .u8 9),.str t,.w (.int .i64 i),.w (.int .i64 p),.w (.bool c),.w (.bool f),.w (.int .i64 o),.w (.int .i64 m),.w (.int .i64 w),.str g,.str mb,.w (.int .i64 n),.w (.int .i64 b1),.w (.int .i64 b2),.w (.int .i64 b3),.w (.int .i64 b4),.w (.int .i64 b5),.sg 6 xs fl]] ++ List.replicate (Try.f60.ntmps - 1) .junk,pinHeap 0 [],4⟩ := by
 unfold Try.f60
 simp only [go_sem,coe,zab,Nat.reduceAdd,Nat.reduceSub,Nat.reduceMul,Int.reduceToNat,reduceCtorEq,↓reduceIte,Int.reducePow,Nat.reducePow,Int.reduceMod,Nat.reduceLeDiff,Int.reduceLE,Int.reduceNe,Int.reduceEq,Nat.reduceEqDiff,Nat.reduceLT,Nat.reduceBEq,List.map_cons,List.map_nil,List.toList_toArray,Array.toList_append,Option.toArray_some,Option.toArray_none,Bool.and_self,ty,zbm,zay,zbe,zbh,zat,fillS,Int.reduceEq,Int.reduceLT,Int.reduceLE,or_self,or_false,false_or,or_true,true_or,if_true,if_false]
 refine zcf 4 ?_
 simp only [go_sem,coe,zab,Nat.reduceAdd,Nat.reduceSub,Nat.reduceMul,Int.reduceToNat,reduceCtorEq,↓reduceIte,Int.reducePow,Nat.reducePow,Int.reduceMod,Nat.reduceLeDiff,Int.reduceLE,Int.reduceNe,Int.reduceEq,Nat.reduceEqDiff,Nat.reduceLT,Nat.reduceBEq,List.map_cons,List.map_nil,List.toList_toArray,Array.toList_append,Option.toArray_some,Option.toArray_none,Bool.and_self,ty,zbm,zay,zbe,zfp,yesO,zfq,zem,yesF,zec,zdi,zcw,zaf,zal,zar,Int.reduceAdd,Int.reduceSub,Int.cast_ofNat_Int,fillS,Int.reduceEq,Int.reduceLT,Int.reduceLE,or_self,or_false,false_or,or_true,true_or,if_true,if_false,dc22_1]
 refine ⟨_,Weak.refl _,?_⟩
 simp only [go_sem,coe,zab,Nat.reduceAdd,Nat.reduceSub,Nat.reduceMul,Int.reduceToNat,reduceCtorEq,↓reduceIte,Int.reducePow,Nat.reducePow,Int.reduceMod,Nat.reduceLeDiff,Int.reduceLE,Int.reduceNe,Int.reduceEq,Nat.reduceEqDiff,Nat.reduceLT,Nat.reduceBEq,List.map_cons,List.map_nil,List.toList_toArray,Array.toList_append,Option.toArray_some,Option.toArray_none,Bool.and_self,ty,zcu,Int.reduceEq,Int.reduceLT,Int.reduceLE,or_self,or_false,false_or,or_true,true_or,if_true,if_false]
set_option maxHeartbeats 8000000 in
theorem just22_k10 (t : List UInt8) (i p : Int) (c f : Bool) (o m w : Int) (g mb : List UInt8) (n b1 b2 b3 b4 b5 : Int) (xs : List AV) (fl : Bool) :
   awpO zbm zay ty zbe (Try.f60.body.getD .skip) (zbs ty Try.f60.results.toList [] ⟨True,zcu 10 t i p c f o m w g mb n b1 b2 b3 b4 b5 xs fl,[]⟩) ⟨[.agg [.w (.int .u8 10),.str t,.w (.int .i64 i),.w (.int .i64 p),.w (.bool c),.w (.bool f),.w (.int .i64 o),.w (.int .i64 m),.w (.int .i64 w),.str g,.str mb,.w (.int .i64 n),.w (.int .i64 b1),.w (.int .i64 b2),.w (.int .i64 b3),.w (.int .i64 b4),.w (.int .i64 b5),.sg 6 xs fl]] ++ List.replicate (Try.f60.ntmps - 1) .junk,pinHeap 0 [],4⟩ := by
 unfold Try.f60
 simp only [go_sem,coe,zab,Nat.reduceAdd,Nat.reduceSub,Nat.reduceMul,Int.reduceToNat,reduceCtorEq,↓reduceIte,Int.reducePow,Nat.reducePow,Int.reduceMod,Nat.reduceLeDiff,Int.reduceLE,Int.reduceNe,Int.reduceEq,Nat.reduceEqDiff,Nat.reduceLT,Nat.reduceBEq,List.map_cons,List.map_nil,List.toList_toArray,Array.toList_append,Option.toArray_some,Option.toArray_none,Bool.and_self,ty,zbm,zay,zbe,zbh,zat,fillS,Int.reduceEq,Int.reduceLT,Int.reduceLE,or_self,or_false,false_or,or_true,true_or,if_true,if_false]
 refine zcf 8 ?_
 simp only [go_sem,coe,zab,Nat.reduceAdd,Nat.reduceSub,Nat.reduceMul,Int.reduceToNat,reduceCtorEq,↓reduceIte,Int.reducePow,Nat.reducePow,Int.reduceMod,Nat.reduceLeDiff,Int.reduceLE,Int.reduceNe,Int.reduceEq,Nat.reduceEqDiff,Nat.reduceLT,Nat.reduceBEq,List.map_cons,List.map_nil,List.toList_toArray,Array.toList_append,Option.toArray_some,Option.toArray_none,Bool.and_self,ty,zbm,zay,zbe,zfp,yesO,zfq,zem,yesF,zec,zdi,zcw,zaf,zal,zar,Int.reduceAdd,Int.reduceSub,Int.cast_ofNat_Int,fillS,Int.reduceEq,Int.reduceLT,Int.reduceLE,or_self,or_false,false_or,or_true,true_or,if_true,if_false,dc22_9]
 refine ⟨_,Weak.refl _,?_⟩
 simp only [go_sem,coe,zab,Nat.reduceAdd,Nat.reduceSub,Nat.reduceMul,Int.reduceToNat,reduceCtorEq,↓reduceIte,Int.reducePow,Nat.reducePow,Int.reduceMod,Nat.reduceLeDiff,Int.reduceLE,Int.reduceNe,Int.reduceEq,Nat.reduceEqDiff,Nat.reduceLT,Nat.reduceBEq,List.map_cons,List.map_nil,List.toList_toArray,Array.toList_append,Option.toArray_some,Option.toArray_none,Bool.and_self,ty,zcu,Int.reduceEq,Int.reduceLT,Int.reduceLE,or_self,or_false,false_or,or_true,true_or,if_true,if_false]
set_option maxHeartbeats 8000000 in
theorem just22_k11 (t : List UInt8) (i p : Int) (c f : Bool) (o m w : Int) (g mb : List UInt8) (n b1 b2 b3 b4 b5 : Int) (xs : List AV) (fl : Bool) :
   awpO zbm zay ty zbe (Try.f60.body.getD .skip) (zbs ty Try.f60.results.toList [] ⟨True,zcu 11 t i p c f o m w g mb n b1 b2 b3 b4 b5 xs fl,[]⟩) ⟨[.agg [.w (.int .u8 11),.str t,.w (.int .i64 i),.w (.int .i64 p),.w (.bool c),.w (.bool f),.w (.int .i64 o),.w (.int .i64 m),.w (.int .i64 w),.str g,.str mb,.w (.int .i64 n),.w (.int .i64 b1),.w (.int .i64 b2),.w (.int .i64 b3),.w (.int .i64 b4),.w (.int .i64 b5),.sg 6 xs fl]] ++ List.replicate (Try.f60.ntmps - 1) .junk,pinHeap 0 [],4⟩ := by
 unfold Try.f60
 simp only [go_sem,coe,zab,Nat.reduceAdd,Nat.reduceSub,Nat.reduceMul,Int.reduceToNat,reduceCtorEq,↓reduceIte,Int.reducePow,Nat.reducePow,Int.reduceMod,Nat.reduceLeDiff,Int.reduceLE,Int.reduceNe,Int.reduceEq,Nat.reduceEqDiff,Nat.reduceLT,Nat.reduceBEq,List.map_cons,List.map_nil,List.toList_toArray,Array.toList_append,Option.toArray_some,Option.toArray_none,Bool.and_self,ty,zbm,zay,zbe,zbh,zat,fillS,Int.reduceEq,Int.reduceLT,Int.reduceLE,or_self,or_false,false_or,or_true,true_or,if_true,if_false]
 refine zcf 5 ?_
 simp only [go_sem,coe,zab,Nat.reduceAdd,Nat.reduceSub,Nat.reduceMul,Int.reduceToNat,reduceCtorEq,↓reduceIte,Int.reducePow,Nat.reducePow,Int.reduceMod,Nat.reduceLeDiff,Int.reduceLE,Int.reduceNe,Int.reduceEq,Nat.reduceEqDiff,Nat.reduceLT,Nat.reduceBEq,List.map_cons,List.map_nil,List.toList_toArray,Array.toList_append,Option.toArray_some,Option.toArray_none,Bool.and_self,ty,zbm,zay,zbe,zfp,yesO,zfq,zem,yesF,zec,zdi,zcw,zaf,zal,zar,Int.reduceAdd,Int.reduceSub,Int.cast_ofNat_Int,fillS,Int.reduceEq,Int.reduceLT,Int.reduceLE,or_self,or_false,false_or,or_true,true_or,if_true,if_false,dc22_3]
 refine ⟨_,Weak.refl _,?_⟩
 simp only [go_sem,coe,zab,Nat.reduceAdd,Nat.reduceSub,Nat.reduceMul,Int.reduceToNat,reduceCtorEq,↓reduceIte,Int.reducePow,Nat.reducePow,Int.reduceMod,Nat.reduceLeDiff,Int.reduceLE,Int.reduceNe,Int.reduceEq,Nat.reduceEqDiff,Nat.reduceLT,Nat.reduceBEq,List.map_cons,List.map_nil,List.toList_toArray,Array.toList_append,Option.toArray_some,Option.toArray_none,Bool.and_self,ty,zcu,Int.reduceEq,Int.reduceLT,Int.reduceLE,or_self,or_false,false_or,or_true,true_or,if_true,if_false]
theorem just22_sound : zbf Try.prog 60 zcj := by
 refine zdx (S := zbm) (SO := zay) (T := ty) zbj ty_ok Sjust22_ok Ojust22_ok Try.func60 (c := Try.f60.body.getD .skip) (by kernel_rfl) (fun xs pins hp _ => ?_)
 unfold zcj at hp ⊢
 split at hp
 · rename_i k t i p c f o m w g mb n b1 b2 b3 b4 b5 xs fl _
   have hk : 0 ≤ k ∧ k ≤ 11 := hp
   refine ⟨by simp,zbe,by kernel_rfl,?_⟩
   rcases knd_le k hk with rfl | rfl | rfl | rfl | rfl | rfl | rfl | rfl | rfl | rfl | rfl | rfl
   · exact just22_k0 t i p c f o m w g mb n b1 b2 b3 b4 b5 xs fl
   · exact just22_k1 t i p c f o m w g mb n b1 b2 b3 b4 b5 xs fl
   · exact just22_k2 t i p c f o m w g mb n b1 b2 b3 b4 b5 xs fl
   · exact just22_k3 t i p c f o m w g mb n b1 b2 b3 b4 b5 xs fl
   · exact just22_k4 t i p c f o m w g mb n b1 b2 b3 b4 b5 xs fl
   · exact just22_k5 t i p c f o m w g mb n b1 b2 b3 b4 b5 xs fl
   · exact just22_k6 t i p c f o m w g mb n b1 b2 b3 b4 b5 xs fl
   · exact just22_k7 t i p c f o m w g mb n b1 b2 b3 b4 b5 xs fl
   · exact just22_k8 t i p c f o m w g mb n b1 b2 b3 b4 b5 xs fl
   · exact just22_k9 t i p c f o m w g mb n b1 b2 b3 b4 b5 xs fl
   · exact just22_k10 t i p c f o m w g mb n b1 b2 b3 b4 b5 xs fl
   · exact just22_k11 t i p c f o m w g mb n b1 b2 b3 b4 b5 xs fl
 · exact hp.elim
end
end Go.Proofs.Ytmedjkjoannbmaa
namespace Go.Proofs.Ytmedjkjoannbmaa
open Ax
theorem zas {T : zah} {sl : List AV} {H : Heap} {nx : Nat} {v : Value} {q : Prop} (i : Nat) (h : slot sl i = .w v) : zbs T [.tmp i] [] ⟨q,.w v,[]⟩ .ret ⟨sl,H,nx⟩ := by
 refine ⟨_,Weak.refl _,?_⟩
 simp only [Ax.Ends,Ax.rvals,EndsX,rone,h,AV.ids,idsL,newIds,upTo,nodup,pinsOf,List.nil_append,AV.ren,and_self]
end Go.Proofs.Ytmedjkjoannbmaa
namespace Go.Proofs.Ytmedjkjoannbmaa
open Ax
theorem w1 : rchk 1 5 true [107] false [118] = 0 := by decide
theorem w2 : rchk 1 5 true [107] true [] = 0 := by decide
theorem w3 : recB 1 5 true [107] false [118] = [1,2,10,2,107,2,118] := by
 simp [recB,w1,recL,flagI,zaj,putU,zz]
theorem w4 : recB 1 5 true [107] true [] = [3,2,10,2,107] := by
 simp [recB,w2,recL,flagI,zaj,putU,zz]
theorem w6 : gd [1,2,10,2,107,2,118] 0 = 1 := by decide +kernel
section
set_option maxRecDepth 100000
set_option maxHeartbeats 1000000 in
end
end Go.Proofs.Ytmedjkjoannbmaa
namespace Go.Proofs.Ytmedjkjoannbmaa
open Ax
def okI (n : Int) : Prop := -9223372036854775808 ≤ n ∧ n ≤ 9223372036854775807
end Go.Proofs.Ytmedjkjoannbmaa
namespace Go.Proofs.Ytmedjkjoannbmaa
open Ax
def eqQ (k : Int) (t : List UInt8) (i p : Int) (c f : Bool) (o m w : Int) (g mb : List UInt8) (n : Int) (k' : Int) (t' : List UInt8) (i' p' : Int) (c' f' : Bool) (o' m' w' : Int) (g' mb' : List UInt8) (n' : Int) (B : Bool) : Bool := decide (k = k' ∧ t = t' ∧ i = i' ∧ p = p' ∧ c = c' ∧ f = f' ∧ o = o' ∧ m = m' ∧ w = w' ∧ g = g' ∧ mb = mb' ∧ n = n') && B
theorem eqQ_cases (k : Int) (t : List UInt8) (i p : Int) (c f : Bool) (o m w : Int) (g mb : List UInt8) (n : Int) (k' : Int) (t' : List UInt8) (i' p' : Int) (c' f' : Bool) (o' m' w' : Int) (g' mb' : List UInt8) (n' : Int) :
   ((∀ B,eqQ k t i p c f o m w g mb n k' t' i' p' c' f' o' m' w' g' mb' n' B = false) ∧ decide (k = k') = false) ∨
   ((∀ B,eqQ k t i p c f o m w g mb n k' t' i' p' c' f' o' m' w' g' mb' n' B = false) ∧ decide (k = k') = true ∧ decide (t = t') = false) ∨
   ((∀ B,eqQ k t i p c f o m w g mb n k' t' i' p' c' f' o' m' w' g' mb' n' B = false) ∧ decide (k = k') = true ∧ decide (t = t') = true ∧ decide (i = i') = false) ∨
   ((∀ B,eqQ k t i p c f o m w g mb n k' t' i' p' c' f' o' m' w' g' mb' n' B = false) ∧ decide (k = k') = true ∧ decide (t = t') = true ∧ decide (i = i') = true ∧ decide (p = p') = false) ∨
   ((∀ B,eqQ k t i p c f o m w g mb n k' t' i' p' c' f' o' m' w' g' mb' n' B = false) ∧ decide (k = k') = true ∧ decide (t = t') = true ∧ decide (i = i') = true ∧ decide (p = p') = true ∧ (c == c') = false) ∨
   ((∀ B,eqQ k t i p c f o m w g mb n k' t' i' p' c' f' o' m' w' g' mb' n' B = false) ∧ decide (k = k') = true ∧ decide (t = t') = true ∧ decide (i = i') = true ∧ decide (p = p') = true ∧ (c == c') = true ∧ (f == f') = false) ∨
   ((∀ B,eqQ k t i p c f o m w g mb n k' t' i' p' c' f' o' m' w' g' mb' n' B = false) ∧ decide (k = k') = true ∧ decide (t = t') = true ∧ decide (i = i') = true ∧ decide (p = p') = true ∧ (c == c') = true ∧ (f == f') = true ∧ decide (o = o') = false) ∨
   ((∀ B,eqQ k t i p c f o m w g mb n k' t' i' p' c' f' o' m' w' g' mb' n' B = false) ∧ decide (k = k') = true ∧ decide (t = t') = true ∧ decide (i = i') = true ∧ decide (p = p') = true ∧ (c == c') = true ∧ (f == f') = true ∧ decide (o = o') = true ∧ decide (m = m') = false) ∨
   ((∀ B,eqQ k t i p c f o m w g mb n k' t' i' p' c' f' o' m' w' g' mb' n' B = false) ∧ decide (k = k') = true ∧ decide (t = t') = true ∧ decide (i = i') = true ∧ decide (p = p') = true ∧ (c == c') = true ∧ (f == f') = true ∧ decide (o = o') = true ∧ decide (m = m') = true ∧ decide (w = w') = false) ∨
   ((∀ B,eqQ k t i p c f o m w g mb n k' t' i' p' c' f' o' m' w' g' mb' n' B = false) ∧ decide (k = k') = true ∧ decide (t = t') = true ∧ decide (i = i') = true ∧ decide (p = p') = true ∧ (c == c') = true ∧ (f == f') = true ∧ decide (o = o') = true ∧ decide (m = m') = true ∧ decide (w = w') = true ∧ decide (g = g') = false) ∨
   ((∀ B,eqQ k t i p c f o m w g mb n k' t' i' p' c' f' o' m' w' g' mb' n' B = false) ∧ decide (k = k') = true ∧ decide (t = t') = true ∧ decide (i = i') = true ∧ decide (p = p') = true ∧ (c == c') = true ∧ (f == f') = true ∧ decide (o = o') = true ∧ decide (m = m') = true ∧ decide (w = w') = true ∧ decide (g = g') = true ∧ decide (mb = mb') = false) ∨
   ((∀ B,eqQ k t i p c f o m w g mb n k' t' i' p' c' f' o' m' w' g' mb' n' B = false) ∧ decide (k = k') = true ∧ decide (t = t') = true ∧ decide (i = i') = true ∧ decide (p = p') = true ∧ (c == c') = true ∧ (f == f') = true ∧ decide (o = o') = true ∧ decide (m = m') = true ∧ decide (w = w') = true ∧ decide (g = g') = true ∧ decide (mb = mb') = true ∧ decide (n = n') = false) ∨
   ((∀ B,eqQ k t i p c f o m w g mb n k' t' i' p' c' f' o' m' w' g' mb' n' B = B) ∧ decide (k = k') = true ∧ decide (t = t') = true ∧ decide (i = i') = true ∧ decide (p = p') = true ∧ (c == c') = true ∧ (f == f') = true ∧ decide (o = o') = true ∧ decide (m = m') = true ∧ decide (w = w') = true ∧ decide (g = g') = true ∧ decide (mb = mb') = true ∧ decide (n = n') = true) := by
 by_cases h0 : k = k'
 case neg =>
   exact .inl ⟨fun B => by unfold eqQ; rw [decide_eq_false (fun h => h0 h.1)]; rfl,decide_eq_false h0⟩
 by_cases h1 : t = t'
 case neg =>
   exact .inr (.inl ⟨fun B => by unfold eqQ; rw [decide_eq_false (fun h => h1 h.2.1)]; rfl,decide_eq_true h0,decide_eq_false h1⟩)
 by_cases h2 : i = i'
 case neg =>
   exact .inr (.inr (.inl ⟨fun B => by unfold eqQ; rw [decide_eq_false (fun h => h2 h.2.2.1)]; rfl,decide_eq_true h0,decide_eq_true h1,decide_eq_false h2⟩))
 by_cases h3 : p = p'
 case neg =>
   exact .inr (.inr (.inr (.inl ⟨fun B => by unfold eqQ; rw [decide_eq_false (fun h => h3 h.2.2.2.1)]; rfl,decide_eq_true h0,decide_eq_true h1,decide_eq_true h2,decide_eq_false h3⟩)))
 by_cases h4 : c = c'
 case neg =>
   exact .inr (.inr (.inr (.inr (.inl ⟨fun B => by unfold eqQ; rw [decide_eq_false (fun h => h4 h.2.2.2.2.1)]; rfl,decide_eq_true h0,decide_eq_true h1,decide_eq_true h2,decide_eq_true h3,(beq_false_of_ne h4)⟩))))
 by_cases h5 : f = f'
 case neg =>
   exact .inr (.inr (.inr (.inr (.inr (.inl ⟨fun B => by unfold eqQ; rw [decide_eq_false (fun h => h5 h.2.2.2.2.2.1)]; rfl,decide_eq_true h0,decide_eq_true h1,decide_eq_true h2,decide_eq_true h3,(by rw [h4]; exact beq_self_eq_true _),(beq_false_of_ne h5)⟩)))))
 by_cases h6 : o = o'
 case neg =>
   exact .inr (.inr (.inr (.inr (.inr (.inr (.inl ⟨fun B => by unfold eqQ; rw [decide_eq_false (fun h => h6 h.2.2.2.2.2.2.1)]; rfl,decide_eq_true h0,decide_eq_true h1,decide_eq_true h2,decide_eq_true h3,(by rw [h4]; exact beq_self_eq_true _),(by rw [h5]; exact beq_self_eq_true _),decide_eq_false h6⟩))))))
 by_cases h7 : m = m'
 case neg =>
   exact .inr (.inr (.inr (.inr (.inr (.inr (.inr (.inl ⟨fun B => by unfold eqQ; rw [decide_eq_false (fun h => h7 h.2.2.2.2.2.2.2.1)]; rfl,decide_eq_true h0,decide_eq_true h1,decide_eq_true h2,decide_eq_true h3,(by rw [h4]; exact beq_self_eq_true _),(by rw [h5]; exact beq_self_eq_true _),decide_eq_true h6,decide_eq_false h7⟩)))))))
 by_cases h8 : w = w'
 case neg =>
   exact .inr (.inr (.inr (.inr (.inr (.inr (.inr (.inr (.inl ⟨fun B => by unfold eqQ; rw [decide_eq_false (fun h => h8 h.2.2.2.2.2.2.2.2.1)]; rfl,decide_eq_true h0,decide_eq_true h1,decide_eq_true h2,decide_eq_true h3,(by rw [h4]; exact beq_self_eq_true _),(by rw [h5]; exact beq_self_eq_true _),decide_eq_true h6,decide_eq_true h7,decide_eq_false h8⟩))))))))
 by_cases h9 : g = g'
 case neg =>
   exact .inr (.inr (.inr (.inr (.inr (.inr (.inr (.inr (.inr (.inl ⟨fun B => by unfold eqQ; rw [decide_eq_false (fun h => h9 h.2.2.2.2.2.2.2.2.2.1)]; rfl,decide_eq_true h0,decide_eq_true h1,decide_eq_true h2,decide_eq_true h3,(by rw [h4]; exact beq_self_eq_true _),(by rw [h5]; exact beq_self_eq_true _),decide_eq_true h6,decide_eq_true h7,decide_eq_true h8,decide_eq_false h9⟩)))))))))
 by_cases h10 : mb = mb'
 case neg =>
   exact .inr (.inr (.inr (.inr (.inr (.inr (.inr (.inr (.inr (.inr (.inl ⟨fun B => by unfold eqQ; rw [decide_eq_false (fun h => h10 h.2.2.2.2.2.2.2.2.2.2.1)]; rfl,decide_eq_true h0,decide_eq_true h1,decide_eq_true h2,decide_eq_true h3,(by rw [h4]; exact beq_self_eq_true _),(by rw [h5]; exact beq_self_eq_true _),decide_eq_true h6,decide_eq_true h7,decide_eq_true h8,decide_eq_true h9,decide_eq_false h10⟩))))))))))
 by_cases h11 : n = n'
 case neg =>
   exact .inr (.inr (.inr (.inr (.inr (.inr (.inr (.inr (.inr (.inr (.inr (.inl ⟨fun B => by unfold eqQ; rw [decide_eq_false (fun h => h11 h.2.2.2.2.2.2.2.2.2.2.2)]; rfl,decide_eq_true h0,decide_eq_true h1,decide_eq_true h2,decide_eq_true h3,(by rw [h4]; exact beq_self_eq_true _),(by rw [h5]; exact beq_self_eq_true _),decide_eq_true h6,decide_eq_true h7,decide_eq_true h8,decide_eq_true h9,decide_eq_true h10,decide_eq_false h11⟩)))))))))))
 exact .inr (.inr (.inr (.inr (.inr (.inr (.inr (.inr (.inr (.inr (.inr (.inr (⟨fun B => by unfold eqQ; rw [decide_eq_true ⟨h0,h1,h2,h3,h4,h5,h6,h7,h8,h9,h10,h11⟩]; rfl,decide_eq_true h0,decide_eq_true h1,decide_eq_true h2,decide_eq_true h3,(by rw [h4]; exact beq_self_eq_true _),(by rw [h5]; exact beq_self_eq_true _),decide_eq_true h6,decide_eq_true h7,decide_eq_true h8,decide_eq_true h9,decide_eq_true h10,decide_eq_true h11⟩))))))))))))
def zdp : zaq
 | [.agg [.w (.int .u8 k),.str t,.w (.int .i64 i),.w (.int .i64 p),.w (.bool c),.w (.bool f),.w (.int .i64 o),.w (.int .i64 m),.w (.int .i64 w),.str g,.str mb,.w (.int .i64 n),.w (.int .i64 b1),.w (.int .i64 b2),.w (.int .i64 b3),.w (.int .i64 b4),.w (.int .i64 b5),.sg 6 xs fl],.agg [.w (.int .u8 k'),.str t',.w (.int .i64 i'),.w (.int .i64 p'),.w (.bool c'),.w (.bool f'),.w (.int .i64 o'),.w (.int .i64 m'),.w (.int .i64 w'),.str g',.str mb',.w (.int .i64 n'),.w (.int .i64 b1'),.w (.int .i64 b2'),.w (.int .i64 b3'),.w (.int .i64 b4'),.w (.int .i64 b5'),.sg 6 ys fm]],[] =>
     ⟨(xs.length ≤ 9223372036854775807 ∧ ∃ rs : List Rec,xs = rs.map rv) ∧ ys.length ≤ 9223372036854775807 ∧ ∃ qs : List Rec,ys = qs.map rv,.w (.bool (eqQ k t i p c f o m w g mb n k' t' i' p' c' f' o' m' w' g' mb' n' (zdh b1 b2 b3 b4 b5 (xs.map rrec) b1' b2' b3' b4' b5' (ys.map rrec)))),[]⟩
 | _,_ => zbv
def Ssreq22 (f : FuncId) : Option zaq :=
 match f with
 | 33 => some zfk
 | _ => none
theorem Ssreq22_ok : Fns Try.prog Ssreq22 := by
 intro f s h
 unfold Ssreq22 at h
 split at h
 · injection h with h; subst h; exact ⟨⟨_,Try.func33,by kernel_rfl,by kernel_rfl⟩,bsame4_sound⟩
 · cases h
section
set_option maxRecDepth 100000
set_option maxHeartbeats 8000000 in
theorem sreq22_sound : zbf Try.prog 12 zdp := by
 refine zcm (S := Ssreq22) (T := ty) zbj ty_ok Ssreq22_ok Try.func12 (c := Try.f12.body.getD .skip) (by kernel_rfl) (by kernel_rfl) (fun xs pins hp _ => ?_)
 unfold zdp at hp ⊢
 split at hp
 · rename_i k t i p c f o m w g mb n b1 b2 b3 b4 b5 xs fl k' t' i' p' c' f' o' m' w' g' mb' n' b1' b2' b3' b4' b5' ys fm _
   obtain ⟨hX,hY1,hY2⟩ := hp
   refine ⟨by simp,?_⟩
   unfold Try.f12
   rcases eqQ_cases k t i p c f o m w g mb n k' t' i' p' c' f' o' m' w' g' mb' n' with D | D | D | D | D | D | D | D | D | D | D | D | D
   all_goals
     simp only [go_sem,coe,zaa,Nat.reduceAdd,Nat.reduceSub,Nat.reduceMul,Int.reduceToNat,reduceCtorEq,↓reduceIte,Int.reducePow,Nat.reducePow,Int.reduceMod,Nat.reduceLeDiff,Int.reduceLE,Int.reduceNe,Int.reduceEq,Nat.reduceEqDiff,Nat.reduceLT,Nat.reduceBEq,ty,Ssreq22,zfk,hX,hY1,hY2,D]
     exact zas 4 rfl
 · exact hp.elim
end
end Go.Proofs.Ytmedjkjoannbmaa
namespace Go.Proofs.Ytmedjkjoannbmaa
open Ax
def zbp (k : Int) (t : List UInt8) (i p : Int) (c f : Bool) (o m w : Int) (g mb : List UInt8) (n b1 b2 b3 b4 b5 : Int) (rs : List Rec) : Bool :=
 eqQ k t i p c f o m w g mb n k (if k = 0 ∨ k = 1 ∨ k = 2 ∨ k = 3 ∨ k = 4 ∨ k = 5 ∨ k = 7 ∨ k = 10 ∨ k = 11 then t else []) (if k = 3 ∨ k = 4 ∨ k = 5 ∨ k = 10 ∨ k = 11 then i else 0) (if k = 0 then p else 0) (if k = 0 then c else false) (if k = 3 then f else false) (if k = 4 ∨ k = 10 then o else 0) (if k = 4 then m else 0) (if k = 5 then w else 0) (if k = 6 ∨ k = 7 ∨ k = 8 ∨ k = 9 ∨ k = 10 ∨ k = 11 then g else []) (if k = 6 ∨ k = 7 ∨ k = 8 ∨ k = 9 ∨ k = 10 then mb else []) (if k = 7 ∨ k = 8 ∨ k = 10 then n else 0) (zdh b1 b2 b3 b4 b5 rs (if k = 3 then b1 else 0) (if k = 3 then b2 else 0) (if k = 3 then b3 else 0) (if k = 3 then b4 else 0) (if k = 3 then b5 else 0) (if k = 3 then rs else []))
def zch (t g mb : List UInt8) : Prop := 255 < t.length ∨ 255 < g.length ∨ 255 < mb.length
instance (t g mb : List UInt8) : Decidable (zch t g mb) := by unfold zch; infer_instance
def chkQ (k : Int) (t : List UInt8) (i p : Int) (c f : Bool) (o m w : Int) (g mb : List UInt8) (n b1 b2 b3 b4 b5 : Int) (rs : List Rec) : Int :=
 if 11 < k then 22 else if zbp k t i p c f o m w g mb n b1 b2 b3 b4 b5 rs = false then 4 else if zch t g mb then 5 else if k ≠ 3 then 0 else if batE 0 b2 b3 b4 b5 rs ≠ 0 then batE 0 b2 b3 b4 b5 rs else if b1 ≠ 0 then 4 else 0
def chkQS : zaq
 | [.agg [.w (.int .u8 k),.str t,.w (.int .i64 i),.w (.int .i64 p),.w (.bool c),.w (.bool f),.w (.int .i64 o),.w (.int .i64 m),.w (.int .i64 w),.str g,.str mb,.w (.int .i64 n),.w (.int .i64 b1),.w (.int .i64 b2),.w (.int .i64 b3),.w (.int .i64 b4),.w (.int .i64 b5),.sg 6 xs fl]],[] => ⟨0 ≤ k ∧ k < 256 ∧ xs.length ≤ 9223372036854775807 ∧ ∃ rs : List Rec,xs = rs.map rv,.w (.int .i64 (chkQ k t i p c f o m w g mb n b1 b2 b3 b4 b5 (xs.map rrec))),[]⟩
 | _,_ => zbv
theorem long_cases (t g mb : List UInt8) :
   (decide ((255 : Int) < t.length) = true ∧ zch t g mb) ∨ (decide ((255 : Int) < t.length) = false ∧ decide ((255 : Int) < g.length) = true ∧ zch t g mb) ∨
   (decide ((255 : Int) < t.length) = false ∧ decide ((255 : Int) < g.length) = false ∧ decide ((255 : Int) < mb.length) = true ∧ zch t g mb) ∨
   (decide ((255 : Int) < t.length) = false ∧ decide ((255 : Int) < g.length) = false ∧ decide ((255 : Int) < mb.length) = false ∧ ¬ zch t g mb) := by
 unfold zch
 by_cases h1 : 255 < t.length
 · exact .inl ⟨decide_eq_true (by omega),.inl h1⟩
 · by_cases h2 : 255 < g.length
   · exact .inr (.inl ⟨decide_eq_false (by omega),decide_eq_true (by omega),.inr (.inl h2)⟩)
   · by_cases h3 : 255 < mb.length
     · exact .inr (.inr (.inl ⟨decide_eq_false (by omega),decide_eq_false (by omega),decide_eq_true (by omega),.inr (.inr h3)⟩))
     · exact .inr (.inr (.inr ⟨decide_eq_false (by omega),decide_eq_false (by omega),decide_eq_false (by omega),by omega⟩))
theorem only_recs (k : Int) (rs : List Rec) (hL : (rs.map rv).length ≤ 9223372036854775807) : (if k = 3 then rs.map rv else []).length ≤ 9223372036854775807 ∧ (∃ qs : List Rec,(if k = 3 then rs.map rv else []) = qs.map rv) ∧ (if k = 3 then rs.map rv else []).map rrec = (if k = 3 then rs else []) := by
 by_cases h : k = 3
 · rw [if_pos h,if_pos h]; exact ⟨hL,⟨rs,rfl⟩,zag rs⟩
 · rw [if_neg h,if_neg h]; exact ⟨by simp,⟨[],rfl⟩,rfl⟩
theorem zdc (k : Int) (t : List UInt8) (i p : Int) (c f : Bool) (o m w : Int) (g mb : List UInt8) (n b1 b2 b3 b4 b5 : Int) (rs : List Rec) (fl : Bool) (hL : (rs.map rv).length ≤ 9223372036854775807) :
   ∃ (t' : List UInt8) (i' p' : Int) (c' f' : Bool) (o' m' w' : Int) (g' mb' : List UInt8) (n' b1' b2' b3' b4' b5' : Int) (ys : List AV) (fm : Bool),
     zcu k t i p c f o m w g mb n b1 b2 b3 b4 b5 (rs.map rv) fl = .agg [.w (.int .u8 k),.str t',.w (.int .i64 i'),.w (.int .i64 p'),.w (.bool c'),.w (.bool f'),.w (.int .i64 o'),.w (.int .i64 m'),.w (.int .i64 w'),.str g',.str mb',.w (.int .i64 n'),.w (.int .i64 b1'),.w (.int .i64 b2'),.w (.int .i64 b3'),.w (.int .i64 b4'),.w (.int .i64 b5'),.sg 6 ys fm] ∧
     ys.length ≤ 9223372036854775807 ∧ (∃ qs : List Rec,ys = qs.map rv) ∧ eqQ k t i p c f o m w g mb n k t' i' p' c' f' o' m' w' g' mb' n' (zdh b1 b2 b3 b4 b5 rs b1' b2' b3' b4' b5' (ys.map rrec)) = zbp k t i p c f o m w g mb n b1 b2 b3 b4 b5 rs := by
 obtain ⟨h1,h2,h3⟩ := only_recs k rs hL
 refine ⟨_,_,_,_,_,_,_,_,_,_,_,_,_,_,_,_,_,_,rfl,h1,h2,?_⟩
 rw [h3]; rfl
def SchkQ (f : FuncId) : Option zaq :=
 match f with
 | 60 => some zcj
 | 12 => some zdp
 | 61 => some bchkS4
 | _ => none
theorem SchkQ_ok : Fns Try.prog SchkQ := by
 intro f s h
 unfold SchkQ at h
 split at h
 · injection h with h; subst h; exact ⟨⟨_,Try.func60,by kernel_rfl,by kernel_rfl⟩,just22_sound⟩
 · injection h with h; subst h; exact ⟨⟨_,Try.func12,by kernel_rfl,by kernel_rfl⟩,sreq22_sound⟩
 · injection h with h; subst h; exact ⟨⟨_,Try.func61,by kernel_rfl,by kernel_rfl⟩,bchk4_sound⟩
 · cases h
def chkQPl : Plan := fun id => match id with
 | 3 => some [(0,2)]
 | _ => none
section
set_option maxRecDepth 100000
set_option maxHeartbeats 8000000 in
theorem chkQ_sound : zbf Try.prog 26 chkQS := by
 refine fn_soundF (S := SchkQ) (T := ty) (pl := chkQPl) zbj ty_ok SchkQ_ok Try.func26 (c := Try.f26.body.getD .skip) (by kernel_rfl) (by kernel_rfl) (fun xs pins hp _ => ?_)
 unfold chkQS at hp ⊢
 split at hp
 · rename_i k t i p c f o m w g mb n b1 b2 b3 b4 b5 xs fl _
   obtain ⟨hk0,hk1,hL,rs,rfl⟩ := hp
   rw [zag]
   refine ⟨by simp,?_⟩
   unfold Try.f26
   by_cases hk : 11 < k
   · have d1 := decide_eq_true hk
     have hv : chkQ k t i p c f o m w g mb n b1 b2 b3 b4 b5 rs = 22 := if_pos hk
     simp only [go_sem,coe,zae,Nat.reduceAdd,Nat.reduceSub,Nat.reduceMul,Int.reduceToNat,reduceCtorEq,↓reduceIte,Int.reducePow,Nat.reducePow,Int.reduceMod,Nat.reduceLeDiff,Int.reduceLE,Int.reduceNe,Int.reduceEq,Nat.reduceEqDiff,Nat.reduceLT,Nat.reduceBEq,List.map_cons,List.map_nil,List.toList_toArray,Array.toList_append,Option.toArray_some,Option.toArray_none,Bool.and_self,ty,SchkQ,chkQPl,d1,hv]
     exact zas 2 rfl
   have d1 := decide_eq_false hk
   have hk2 : k ≤ 11 := by omega
   have hmr := zag rs
   have hex : ∃ qs : List Rec,rs.map rv = qs.map rv := ⟨rs,rfl⟩
   obtain ⟨t',i',p',c',f',o',m',w',g',mb',n',b1',b2',b3',b4',b5',ys,fm,hO,hY1,hY2,hS⟩ := zdc k t i p c f o m w g mb n b1 b2 b3 b4 b5 rs fl hL
   have hv1 : ¬ zbp k t i p c f o m w g mb n b1 b2 b3 b4 b5 rs = true → chkQ k t i p c f o m w g mb n b1 b2 b3 b4 b5 rs = 4 := fun h => by unfold chkQ; rw [if_neg hk,if_pos (by simpa using h)]
   have hv2 : zbp k t i p c f o m w g mb n b1 b2 b3 b4 b5 rs = true → zch t g mb → chkQ k t i p c f o m w g mb n b1 b2 b3 b4 b5 rs = 5 := fun h h2 => by unfold chkQ; rw [if_neg hk,if_neg (by rw [h]; decide),if_pos h2]
   have hv3 : zbp k t i p c f o m w g mb n b1 b2 b3 b4 b5 rs = true → ¬ zch t g mb → k ≠ 3 → chkQ k t i p c f o m w g mb n b1 b2 b3 b4 b5 rs = 0 := fun h h2 h3 => by unfold chkQ; rw [if_neg hk,if_neg (by rw [h]; decide),if_neg h2,if_pos h3]
   have hv4 : zbp k t i p c f o m w g mb n b1 b2 b3 b4 b5 rs = true → ¬ zch t g mb → k = 3 → batE 0 b2 b3 b4 b5 rs ≠ 0 → chkQ k t i p c f o m w g mb n b1 b2 b3 b4 b5 rs = batE 0 b2 b3 b4 b5 rs := fun h h2 h3 h4 => by unfold chkQ; rw [if_neg hk,if_neg (by rw [h]; decide),if_neg h2,if_neg (fun g => g h3),if_pos h4]
   have hv5 : zbp k t i p c f o m w g mb n b1 b2 b3 b4 b5 rs = true → ¬ zch t g mb → k = 3 → batE 0 b2 b3 b4 b5 rs = 0 → chkQ k t i p c f o m w g mb n b1 b2 b3 b4 b5 rs = if b1 = 0 then 0 else 4 := fun h h2 h3 h4 => by
     unfold chkQ; rw [if_neg hk,if_neg (by rw [h]; decide),if_neg h2,if_neg (fun g => g h3),if_neg (fun g => g h4)]
     by_cases h5 : b1 = 0
     · rw [if_pos h5,if_neg (fun g => g h5)]
     · rw [if_neg h5,if_pos h5]
   obtain ⟨V,hV⟩ : ∃ x,chkQ k t i p c f o m w g mb n b1 b2 b3 b4 b5 rs = x := ⟨_,rfl⟩
   obtain ⟨S,hSS⟩ : ∃ x,zbp k t i p c f o m w g mb n b1 b2 b3 b4 b5 rs = x := ⟨_,rfl⟩
   rw [hSS] at hS hv1 hv2 hv3 hv4 hv5
   rw [hV] at hv1 hv2 hv3 hv4 hv5 ⊢
   cases S with
   | false =>
     have hv := hv1 (by decide)
     simp only [go_sem,coe,zae,Nat.reduceAdd,Nat.reduceSub,Nat.reduceMul,Int.reduceToNat,reduceCtorEq,↓reduceIte,Int.reducePow,Nat.reducePow,Int.reduceMod,Nat.reduceLeDiff,Int.reduceLE,Int.reduceNe,Int.reduceEq,Nat.reduceEqDiff,Nat.reduceLT,Nat.reduceBEq,List.map_cons,List.map_nil,List.toList_toArray,Array.toList_append,Option.toArray_some,Option.toArray_none,Bool.and_self,ty,SchkQ,chkQPl,zcj,zdp,d1,hk0,hk2,hO,hL,hex,hmr,hY1,hY2,hS,hv]
     exact zas 2 rfl
   | true =>
     rcases long_cases t g mb with D | D | D | D
     rotate_right 1
     · have hnl : ¬ zch t g mb := D.2.2.2
       by_cases hk3 : k = 3
       · have d2 := decide_eq_true hk3
         by_cases he : batE 0 b2 b3 b4 b5 rs = 0
         · by_cases hb : b1 = 0
           · have d4 := decide_eq_true hb
             have hv := hv5 rfl hnl hk3 he
             rw [if_pos hb] at hv
             simp only [go_sem,coe,zae,Nat.reduceAdd,Nat.reduceSub,Nat.reduceMul,Int.reduceToNat,reduceCtorEq,↓reduceIte,Int.reducePow,Nat.reducePow,Int.reduceMod,Nat.reduceLeDiff,Int.reduceLE,Int.reduceNe,Int.reduceEq,Nat.reduceEqDiff,Nat.reduceLT,Nat.reduceBEq,List.map_cons,List.map_nil,List.toList_toArray,Array.toList_append,Option.toArray_some,Option.toArray_none,Bool.and_self,ty,SchkQ,chkQPl,zcj,zdp,bchkS4,d1,d2,d4,hk0,hk2,hO,hL,hex,hmr,hY1,hY2,hS,D,he,hv]
             exact zas 2 rfl
           · have d4 := decide_eq_false hb
             have hv := hv5 rfl hnl hk3 he
             rw [if_neg hb] at hv
             simp only [go_sem,coe,zae,Nat.reduceAdd,Nat.reduceSub,Nat.reduceMul,Int.reduceToNat,reduceCtorEq,↓reduceIte,Int.reducePow,Nat.reducePow,Int.reduceMod,Nat.reduceLeDiff,Int.reduceLE,Int.reduceNe,Int.reduceEq,Nat.reduceEqDiff,Nat.reduceLT,Nat.reduceBEq,List.map_cons,List.map_nil,List.toList_toArray,Array.toList_append,Option.toArray_some,Option.toArray_none,Bool.and_self,ty,SchkQ,chkQPl,zcj,zdp,bchkS4,d1,d2,d4,hk0,hk2,hO,hL,hex,hmr,hY1,hY2,hS,D,he,hv]
             exact zas 2 rfl
         · have d3 := decide_eq_false he
           have hv := hv4 rfl hnl hk3 he
           simp only [go_sem,coe,zae,Nat.reduceAdd,Nat.reduceSub,Nat.reduceMul,Int.reduceToNat,reduceCtorEq,↓reduceIte,Int.reducePow,Nat.reducePow,Int.reduceMod,Nat.reduceLeDiff,Int.reduceLE,Int.reduceNe,Int.reduceEq,Nat.reduceEqDiff,Nat.reduceLT,Nat.reduceBEq,List.map_cons,List.map_nil,List.toList_toArray,Array.toList_append,Option.toArray_some,Option.toArray_none,Bool.and_self,ty,SchkQ,chkQPl,zcj,zdp,bchkS4,d1,d2,d3,hk0,hk2,hO,hL,hex,hmr,hY1,hY2,hS,D,hv]
           exact zas 2 rfl
       · have d2 := decide_eq_false hk3
         have hv := hv3 rfl hnl hk3
         simp only [go_sem,coe,zae,Nat.reduceAdd,Nat.reduceSub,Nat.reduceMul,Int.reduceToNat,reduceCtorEq,↓reduceIte,Int.reducePow,Nat.reducePow,Int.reduceMod,Nat.reduceLeDiff,Int.reduceLE,Int.reduceNe,Int.reduceEq,Nat.reduceEqDiff,Nat.reduceLT,Nat.reduceBEq,List.map_cons,List.map_nil,List.toList_toArray,Array.toList_append,Option.toArray_some,Option.toArray_none,Bool.and_self,ty,SchkQ,chkQPl,zcj,zdp,bchkS4,d1,d2,hk0,hk2,hO,hL,hex,hmr,hY1,hY2,hS,D,hv]
         exact zas 2 rfl
     all_goals
       have hv := hv2 rfl (by first | exact D.2 | exact D.2.2 | exact D.2.2.2)
       simp only [go_sem,coe,zae,Nat.reduceAdd,Nat.reduceSub,Nat.reduceMul,Int.reduceToNat,reduceCtorEq,↓reduceIte,Int.reducePow,Nat.reducePow,Int.reduceMod,Nat.reduceLeDiff,Int.reduceLE,Int.reduceNe,Int.reduceEq,Nat.reduceEqDiff,Nat.reduceLT,Nat.reduceBEq,List.map_cons,List.map_nil,List.toList_toArray,Array.toList_append,Option.toArray_some,Option.toArray_none,Bool.and_self,ty,SchkQ,chkQPl,zcj,zdp,d1,hk0,hk2,hO,hL,hex,hmr,hY1,hY2,hS,D,hv]
       exact zas 2 rfl
 · exact hp.elim
end
end Go.Proofs.Ytmedjkjoannbmaa
namespace Go.Proofs.Ytmedjkjoannbmaa
open Ax
theorem zav {T : zah} {sl : List AV} {H : Heap} {nx id n : Nat} {bs rs : List UInt8} {e e' : Value} {q : Prop} (i j : Nat) (hij : i ≠ j) (h2 : slot sl i = .ms id 1 0 n) (h3 : slot sl j = .w e) (hl : Ax.look H id = some (.b bs)) (hn : n = bs.length) (hr : rs = bs) (he : e' = e) :
   zbs T [.tmp i,.tmp j] [] ⟨q,.tup [.ms 0 1 0 rs.length,.w e'],[.b rs]⟩ .ret ⟨sl,H,nx⟩ := by
 subst hn hr he
 refine ⟨_,Weak.refl _,?_⟩
 simp only [Ax.Ends,Ax.rvals,EndsX,rone,h2,h3,AV.ids,idsL,newIds,upTo,nodup,pinsOf,hl,List.nil_append,List.append_nil,AV.ren,renL,gOf,and_self]
 simp [pinsOf,newIds,nodup,hl,gOf,Blk.closed]
theorem zci {T : zah} {sl : List AV} {H : Heap} {nx : Nat} {e e' : Value} {q : Prop} {rs : List UInt8} (i j : Nat) (hij : i ≠ j) (h2 : slot sl i = .sg 1 [] true) (h3 : slot sl j = .w e) (hr : rs = []) (he : e' = e) :
   zbs T [.tmp i,.tmp j] [] ⟨q,.tup [.ms 0 1 0 rs.length,.w e'],[.b rs]⟩ .ret ⟨sl,H,nx⟩ := by
 subst hr he
 have hi : i < sl.length := by
   rcases Nat.lt_or_ge i sl.length with h | h
   · exact h
   · rw [slot_ge h] at h2; cases h2
 obtain ⟨σ',h5,h6⟩ := zav (T := T) (sl := setSlot sl i (.ms nx 1 0 0)) (H := Ax.put H nx (.b [])) (nx := nx + 1) (q := q) i j hij (id := nx) (n := 0) (bs := []) (rs := []) (e := e') (e' := e') (zda hi) (by rw [zcx hij]; exact h3) (by simp [Ax.put,Ax.look]) rfl rfl rfl
 exact ⟨σ',(weak_nil i 1 (.b []) rfl (by rw [h2]; exact trivial)).trans h5,h6⟩
def pq (n : Int) : List UInt8 := putU (zz n).toNat
theorem zct (n : Int) : putU (zz n).toNat = pq n := rfl
theorem zad (n : Int) (h : okI n) : (pq n).length ≤ 10 := by
 have := zea n h.1 h.2
 exact zbo _ (by omega)
theorem zac (s : List UInt8) (h : s.length ≤ 1000000) : (zaj s).length ≤ s.length + 10 := by
 unfold zaj
 have := zbo (2 * s.length) (by omega)
 rw [List.length_append]; omega
def bitN (b : Bool) : Int := if b then 1 else 0
def zfr : zaq
 | [.w (.bool b)],[] => ⟨True,.w (.int .u8 (bitN b)),[]⟩
 | _,_ => zbv
theorem zan (b c p e s : Int) (rs : List Rec) : (batB b c p e s rs).length ≤ 8192 := by
 unfold batB
 by_cases h : batE b c p e s rs = 0
 · rw [if_pos h]
   unfold batE at h
   repeat' split at h
   all_goals omega
 · rw [if_neg h]; simp
def zbc (x : Int) (t : List UInt8) (i p : Int) (c f : Bool) (o m w : Int) (g mb : List UInt8) (n b1 b2 b3 b4 b5 : Int) (rs : List Rec) : List UInt8 :=
 if x = 116 then zaj t
 else if x = 103 then zaj g
 else if x = 107 then zaj mb
 else if x = 99 then [UInt8.ofNat (bitN c).toNat]
 else if x = 102 then [UInt8.ofNat (bitN f).toNat]
 else if x = 105 then pq i
 else if x = 112 then pq p
 else if x = 111 then pq o
 else if x = 109 then pq m
 else if x = 119 then pq w
 else if x = 110 then pq n
 else zaj (batB b1 b2 b3 b4 b5 rs)
def zdr (x : Int) (b1 b2 b3 b4 b5 : Int) (rs : List Rec) : Int := if x = 116 ∨ x = 103 ∨ x = 107 ∨ x = 99 ∨ x = 102 ∨ x = 105 ∨ x = 112 ∨ x = 111 ∨ x = 109 ∨ x = 119 ∨ x = 110 then 0 else batE b1 b2 b3 b4 b5 rs
def lenQ (t g mb : List UInt8) : Prop := t.length ≤ 1000000 ∧ g.length ≤ 1000000 ∧ mb.length ≤ 1000000
def intQ (i p o m w n : Int) : Prop := okI i ∧ okI p ∧ okI o ∧ okI m ∧ okI w ∧ okI n
def fieldS : zaq
 | [.agg [.w (.int .u8 k),.str t,.w (.int .i64 i),.w (.int .i64 p),.w (.bool c),.w (.bool f),.w (.int .i64 o),.w (.int .i64 m),.w (.int .i64 w),.str g,.str mb,.w (.int .i64 n),.w (.int .i64 b1),.w (.int .i64 b2),.w (.int .i64 b3),.w (.int .i64 b4),.w (.int .i64 b5),.sg 6 xs fl],.w (.int .i32 x)],[] => ⟨lenQ t g mb ∧ intQ i p o m w n ∧ xs.length ≤ 9223372036854775807 ∧ ∃ rs : List Rec,xs = rs.map rv,
     .tup [.ms 0 1 0 (zbc x t i p c f o m w g mb n b1 b2 b3 b4 b5 (xs.map rrec)).length,.w (.int .i64 (zdr x b1 b2 b3 b4 b5 (xs.map rrec)))],[.b (zbc x t i p c f o m w g mb n b1 b2 b3 b4 b5 (xs.map rrec))]⟩
 | _,_ => zbv
section
set_option maxRecDepth 100000
theorem bit22_sound : zbf Try.prog 38 zfr := by
 refine zau (S := noS) (T := ty) zbj ty_ok zcy Try.func38 (c := Try.f38.body.getD .skip) (by kernel_rfl) (by kernel_rfl) (fun xs pins hp _ => ?_)
 unfold zfr at hp ⊢
 split at hp
 · rename_i b _
   refine ⟨by simp,?_⟩
   unfold Try.f38
   cases b
   all_goals simp only [go_sem,coe,zaa,Nat.reduceAdd,Nat.reduceSub,Nat.reduceMul,Int.reduceToNat,reduceCtorEq,↓reduceIte,Int.reducePow,Nat.reducePow,Int.reduceMod,Nat.reduceLeDiff,Int.reduceLE,Int.reduceNe,Int.reduceEq,Nat.reduceEqDiff,Nat.reduceLT,Nat.reduceBEq,ty,noS,bitN,if_true,if_false,Bool.false_eq_true]
 · exact hp.elim
end
def zdt (f : FuncId) : Option zaq :=
 match f with
 | 40 => some zcp
 | 37 => some putS
 | 38 => some zfr
 | 39 => some zdd
 | _ => none
theorem Sfield22_ok : Fns Try.prog zdt := by
 intro f s h
 unfold zdt at h
 split at h
 · injection h with h; subst h; exact ⟨⟨_,Try.func40,by kernel_rfl,by kernel_rfl⟩,text_sound⟩
 · injection h with h; subst h; exact ⟨⟨_,Try.func37,by kernel_rfl,by kernel_rfl⟩,put_sound⟩
 · injection h with h; subst h; exact ⟨⟨_,Try.func38,by kernel_rfl,by kernel_rfl⟩,bit22_sound⟩
 · injection h with h; subst h; exact ⟨⟨_,Try.func39,by kernel_rfl,by kernel_rfl⟩,bput4_sound⟩
 · cases h
def zdn : XPlan := fun id => match id with
 | 1 => .opn [] 1
 | 4 => .opn [] 1
 | 7 => .opn [] 1
 | _ => .std
section
set_option maxRecDepth 100000
set_option maxHeartbeats 8000000 in
theorem field22_sound : zbf Try.prog 27 fieldS := by
 refine zdx (S := zdt) (SO := zay) (T := ty) zbj ty_ok Sfield22_ok Ojust22_ok Try.func27 (c := Try.f27.body.getD .skip) (by kernel_rfl) (fun xs pins hp _ => ?_)
 unfold fieldS at hp ⊢
 split at hp
 · rename_i k t i p c f o m w g mb n b1 b2 b3 b4 b5 xs fl x _
   obtain ⟨⟨q1,q2,q3⟩,⟨r1,r2,r3,r4,r5,r6⟩,hL,rs,rfl⟩ := hp
   unfold okI at r1 r2 r3 r4 r5 r6
   rw [zag]
   have hmr := zag rs
   have hex : ∃ qs : List Rec,rs.map rv = qs.map rv := ⟨rs,rfl⟩
   have tk : ∀ l : List UInt8,List.take l.length l = l := fun l => List.take_length
   refine ⟨by simp,zdn,by kernel_rfl,?_⟩
   unfold Try.f27
   by_cases h116 : x = 116
   · subst h116
     have hp1 : zbc 116 t i p c f o m w g mb n b1 b2 b3 b4 b5 rs = zaj t := rfl
     have hp2 : zdr 116 b1 b2 b3 b4 b5 rs = 0 := rfl
     rw [hp1,hp2]
     simp only [go_sem,zab,Nat.reduceAdd,Nat.reduceSub,Nat.reduceMul,Int.reduceToNat,reduceCtorEq,↓reduceIte,Int.reducePow,Nat.reducePow,Int.reduceMod,Nat.reduceLeDiff,Int.reduceLE,Int.reduceNe,Int.reduceEq,Nat.reduceEqDiff,Nat.reduceLT,Nat.reduceBEq,List.map_cons,List.map_nil,List.toList_toArray,Array.toList_append,Option.toArray_some,Option.toArray_none,Bool.and_self,ty,zdt,zay,zdn,zfp,yesO,zfq,zem,yesF,zec,zdi,zcp,putS,zfr,q1,q2,q3,r1,r2,r3,r4,r5,r6,zct,tk,Int.reduceEq,Nat.reduceEqDiff,or_self,or_false,false_or,or_true,true_or,if_true,if_false]
     exact zav 4 5 (by decide) rfl rfl rfl rfl rfl rfl
   have d116 := decide_eq_false h116
   by_cases h103 : x = 103
   · subst h103
     have hp1 : zbc 103 t i p c f o m w g mb n b1 b2 b3 b4 b5 rs = zaj g := rfl
     have hp2 : zdr 103 b1 b2 b3 b4 b5 rs = 0 := rfl
     rw [hp1,hp2]
     simp only [go_sem,zab,Nat.reduceAdd,Nat.reduceSub,Nat.reduceMul,Int.reduceToNat,reduceCtorEq,↓reduceIte,Int.reducePow,Nat.reducePow,Int.reduceMod,Nat.reduceLeDiff,Int.reduceLE,Int.reduceNe,Int.reduceEq,Nat.reduceEqDiff,Nat.reduceLT,Nat.reduceBEq,List.map_cons,List.map_nil,List.toList_toArray,Array.toList_append,Option.toArray_some,Option.toArray_none,Bool.and_self,ty,zdt,zay,zdn,zfp,yesO,zfq,zem,yesF,zec,zdi,zcp,putS,zfr,q1,q2,q3,r1,r2,r3,r4,r5,r6,zct,tk,Int.reduceEq,Nat.reduceEqDiff,or_self,or_false,false_or,or_true,true_or,if_true,if_false]
     exact zav 4 5 (by decide) rfl rfl rfl rfl rfl rfl
   have d103 := decide_eq_false h103
   by_cases h107 : x = 107
   · subst h107
     have hp1 : zbc 107 t i p c f o m w g mb n b1 b2 b3 b4 b5 rs = zaj mb := rfl
     have hp2 : zdr 107 b1 b2 b3 b4 b5 rs = 0 := rfl
     rw [hp1,hp2]
     simp only [go_sem,zab,Nat.reduceAdd,Nat.reduceSub,Nat.reduceMul,Int.reduceToNat,reduceCtorEq,↓reduceIte,Int.reducePow,Nat.reducePow,Int.reduceMod,Nat.reduceLeDiff,Int.reduceLE,Int.reduceNe,Int.reduceEq,Nat.reduceEqDiff,Nat.reduceLT,Nat.reduceBEq,List.map_cons,List.map_nil,List.toList_toArray,Array.toList_append,Option.toArray_some,Option.toArray_none,Bool.and_self,ty,zdt,zay,zdn,zfp,yesO,zfq,zem,yesF,zec,zdi,zcp,putS,zfr,q1,q2,q3,r1,r2,r3,r4,r5,r6,zct,tk,Int.reduceEq,Nat.reduceEqDiff,or_self,or_false,false_or,or_true,true_or,if_true,if_false]
     exact zav 4 5 (by decide) rfl rfl rfl rfl rfl rfl
   have d107 := decide_eq_false h107
   by_cases h99 : x = 99
   · subst h99
     have hp1 : zbc 99 t i p c f o m w g mb n b1 b2 b3 b4 b5 rs = [UInt8.ofNat (bitN c).toNat] := rfl
     have hp2 : zdr 99 b1 b2 b3 b4 b5 rs = 0 := rfl
     rw [hp1,hp2]
     simp only [go_sem,zab,Nat.reduceAdd,Nat.reduceSub,Nat.reduceMul,Int.reduceToNat,reduceCtorEq,↓reduceIte,Int.reducePow,Nat.reducePow,Int.reduceMod,Nat.reduceLeDiff,Int.reduceLE,Int.reduceNe,Int.reduceEq,Nat.reduceEqDiff,Nat.reduceLT,Nat.reduceBEq,List.map_cons,List.map_nil,List.toList_toArray,Array.toList_append,Option.toArray_some,Option.toArray_none,Bool.and_self,ty,zdt,zay,zdn,zfp,yesO,zfq,zem,yesF,zec,zdi,zcp,putS,zfr,q1,q2,q3,r1,r2,r3,r4,r5,r6,zct,tk,Int.reduceEq,Nat.reduceEqDiff,or_self,or_false,false_or,or_true,true_or,if_true,if_false]
     repeat (refine And.intro (by cases c <;> decide) ?_)
     exact zav 4 5 (by decide) rfl rfl rfl rfl rfl rfl
   have d99 := decide_eq_false h99
   by_cases h102 : x = 102
   · subst h102
     have hp1 : zbc 102 t i p c f o m w g mb n b1 b2 b3 b4 b5 rs = [UInt8.ofNat (bitN f).toNat] := rfl
     have hp2 : zdr 102 b1 b2 b3 b4 b5 rs = 0 := rfl
     rw [hp1,hp2]
     simp only [go_sem,zab,Nat.reduceAdd,Nat.reduceSub,Nat.reduceMul,Int.reduceToNat,reduceCtorEq,↓reduceIte,Int.reducePow,Nat.reducePow,Int.reduceMod,Nat.reduceLeDiff,Int.reduceLE,Int.reduceNe,Int.reduceEq,Nat.reduceEqDiff,Nat.reduceLT,Nat.reduceBEq,List.map_cons,List.map_nil,List.toList_toArray,Array.toList_append,Option.toArray_some,Option.toArray_none,Bool.and_self,ty,zdt,zay,zdn,zfp,yesO,zfq,zem,yesF,zec,zdi,zcp,putS,zfr,q1,q2,q3,r1,r2,r3,r4,r5,r6,zct,tk,Int.reduceEq,Nat.reduceEqDiff,or_self,or_false,false_or,or_true,true_or,if_true,if_false]
     repeat (refine And.intro (by cases f <;> decide) ?_)
     exact zav 4 5 (by decide) rfl rfl rfl rfl rfl rfl
   have d102 := decide_eq_false h102
   by_cases h105 : x = 105
   · subst h105
     have hp1 : zbc 105 t i p c f o m w g mb n b1 b2 b3 b4 b5 rs = pq i := rfl
     have hp2 : zdr 105 b1 b2 b3 b4 b5 rs = 0 := rfl
     rw [hp1,hp2]
     simp only [go_sem,zab,Nat.reduceAdd,Nat.reduceSub,Nat.reduceMul,Int.reduceToNat,reduceCtorEq,↓reduceIte,Int.reducePow,Nat.reducePow,Int.reduceMod,Nat.reduceLeDiff,Int.reduceLE,Int.reduceNe,Int.reduceEq,Nat.reduceEqDiff,Nat.reduceLT,Nat.reduceBEq,List.map_cons,List.map_nil,List.toList_toArray,Array.toList_append,Option.toArray_some,Option.toArray_none,Bool.and_self,ty,zdt,zay,zdn,zfp,yesO,zfq,zem,yesF,zec,zdi,zcp,putS,zfr,q1,q2,q3,r1,r2,r3,r4,r5,r6,zct,tk,Int.reduceEq,Nat.reduceEqDiff,or_self,or_false,false_or,or_true,true_or,if_true,if_false]
     exact zav 4 5 (by decide) rfl rfl rfl rfl rfl rfl
   have d105 := decide_eq_false h105
   by_cases h112 : x = 112
   · subst h112
     have hp1 : zbc 112 t i p c f o m w g mb n b1 b2 b3 b4 b5 rs = pq p := rfl
     have hp2 : zdr 112 b1 b2 b3 b4 b5 rs = 0 := rfl
     rw [hp1,hp2]
     simp only [go_sem,zab,Nat.reduceAdd,Nat.reduceSub,Nat.reduceMul,Int.reduceToNat,reduceCtorEq,↓reduceIte,Int.reducePow,Nat.reducePow,Int.reduceMod,Nat.reduceLeDiff,Int.reduceLE,Int.reduceNe,Int.reduceEq,Nat.reduceEqDiff,Nat.reduceLT,Nat.reduceBEq,List.map_cons,List.map_nil,List.toList_toArray,Array.toList_append,Option.toArray_some,Option.toArray_none,Bool.and_self,ty,zdt,zay,zdn,zfp,yesO,zfq,zem,yesF,zec,zdi,zcp,putS,zfr,q1,q2,q3,r1,r2,r3,r4,r5,r6,zct,tk,Int.reduceEq,Nat.reduceEqDiff,or_self,or_false,false_or,or_true,true_or,if_true,if_false]
     exact zav 4 5 (by decide) rfl rfl rfl rfl rfl rfl
   have d112 := decide_eq_false h112
   by_cases h111 : x = 111
   · subst h111
     have hp1 : zbc 111 t i p c f o m w g mb n b1 b2 b3 b4 b5 rs = pq o := rfl
     have hp2 : zdr 111 b1 b2 b3 b4 b5 rs = 0 := rfl
     rw [hp1,hp2]
     simp only [go_sem,zab,Nat.reduceAdd,Nat.reduceSub,Nat.reduceMul,Int.reduceToNat,reduceCtorEq,↓reduceIte,Int.reducePow,Nat.reducePow,Int.reduceMod,Nat.reduceLeDiff,Int.reduceLE,Int.reduceNe,Int.reduceEq,Nat.reduceEqDiff,Nat.reduceLT,Nat.reduceBEq,List.map_cons,List.map_nil,List.toList_toArray,Array.toList_append,Option.toArray_some,Option.toArray_none,Bool.and_self,ty,zdt,zay,zdn,zfp,yesO,zfq,zem,yesF,zec,zdi,zcp,putS,zfr,q1,q2,q3,r1,r2,r3,r4,r5,r6,zct,tk,Int.reduceEq,Nat.reduceEqDiff,or_self,or_false,false_or,or_true,true_or,if_true,if_false]
     exact zav 4 5 (by decide) rfl rfl rfl rfl rfl rfl
   have d111 := decide_eq_false h111
   by_cases h109 : x = 109
   · subst h109
     have hp1 : zbc 109 t i p c f o m w g mb n b1 b2 b3 b4 b5 rs = pq m := rfl
     have hp2 : zdr 109 b1 b2 b3 b4 b5 rs = 0 := rfl
     rw [hp1,hp2]
     simp only [go_sem,zab,Nat.reduceAdd,Nat.reduceSub,Nat.reduceMul,Int.reduceToNat,reduceCtorEq,↓reduceIte,Int.reducePow,Nat.reducePow,Int.reduceMod,Nat.reduceLeDiff,Int.reduceLE,Int.reduceNe,Int.reduceEq,Nat.reduceEqDiff,Nat.reduceLT,Nat.reduceBEq,List.map_cons,List.map_nil,List.toList_toArray,Array.toList_append,Option.toArray_some,Option.toArray_none,Bool.and_self,ty,zdt,zay,zdn,zfp,yesO,zfq,zem,yesF,zec,zdi,zcp,putS,zfr,q1,q2,q3,r1,r2,r3,r4,r5,r6,zct,tk,Int.reduceEq,Nat.reduceEqDiff,or_self,or_false,false_or,or_true,true_or,if_true,if_false]
     exact zav 4 5 (by decide) rfl rfl rfl rfl rfl rfl
   have d109 := decide_eq_false h109
   by_cases h119 : x = 119
   · subst h119
     have hp1 : zbc 119 t i p c f o m w g mb n b1 b2 b3 b4 b5 rs = pq w := rfl
     have hp2 : zdr 119 b1 b2 b3 b4 b5 rs = 0 := rfl
     rw [hp1,hp2]
     simp only [go_sem,zab,Nat.reduceAdd,Nat.reduceSub,Nat.reduceMul,Int.reduceToNat,reduceCtorEq,↓reduceIte,Int.reducePow,Nat.reducePow,Int.reduceMod,Nat.reduceLeDiff,Int.reduceLE,Int.reduceNe,Int.reduceEq,Nat.reduceEqDiff,Nat.reduceLT,Nat.reduceBEq,List.map_cons,List.map_nil,List.toList_toArray,Array.toList_append,Option.toArray_some,Option.toArray_none,Bool.and_self,ty,zdt,zay,zdn,zfp,yesO,zfq,zem,yesF,zec,zdi,zcp,putS,zfr,q1,q2,q3,r1,r2,r3,r4,r5,r6,zct,tk,Int.reduceEq,Nat.reduceEqDiff,or_self,or_false,false_or,or_true,true_or,if_true,if_false]
     exact zav 4 5 (by decide) rfl rfl rfl rfl rfl rfl
   have d119 := decide_eq_false h119
   by_cases h110 : x = 110
   · subst h110
     have hp1 : zbc 110 t i p c f o m w g mb n b1 b2 b3 b4 b5 rs = pq n := rfl
     have hp2 : zdr 110 b1 b2 b3 b4 b5 rs = 0 := rfl
     rw [hp1,hp2]
     simp only [go_sem,zab,Nat.reduceAdd,Nat.reduceSub,Nat.reduceMul,Int.reduceToNat,reduceCtorEq,↓reduceIte,Int.reducePow,Nat.reducePow,Int.reduceMod,Nat.reduceLeDiff,Int.reduceLE,Int.reduceNe,Int.reduceEq,Nat.reduceEqDiff,Nat.reduceLT,Nat.reduceBEq,List.map_cons,List.map_nil,List.toList_toArray,Array.toList_append,Option.toArray_some,Option.toArray_none,Bool.and_self,ty,zdt,zay,zdn,zfp,yesO,zfq,zem,yesF,zec,zdi,zcp,putS,zfr,q1,q2,q3,r1,r2,r3,r4,r5,r6,zct,tk,Int.reduceEq,Nat.reduceEqDiff,or_self,or_false,false_or,or_true,true_or,if_true,if_false]
     exact zav 4 5 (by decide) rfl rfl rfl rfl rfl rfl
   have d110 := decide_eq_false h110
   have hp1 : zbc x t i p c f o m w g mb n b1 b2 b3 b4 b5 rs = zaj (batB b1 b2 b3 b4 b5 rs) := by unfold zbc; simp only [h116,h103,h107,h99,h102,h105,h112,h111,h109,h119,h110,if_false]
   have hp2 : zdr x b1 b2 b3 b4 b5 rs = batE b1 b2 b3 b4 b5 rs := by unfold zdr; simp only [h116,h103,h107,h99,h102,h105,h112,h111,h109,h119,h110,or_self,if_false]
   have e1 : zem x = 0 := by unfold zem; simp only [h116,h103,h107,h99,h102,h105,h112,h111,h109,h119,h110,if_false]
   have e2 : yesF x = 0 := by unfold yesF; simp only [h116,h103,h107,h99,h102,h105,h112,h111,h109,h119,h110,if_false]
   have e3 : zec x = 0 := by unfold zec; simp only [h116,h103,h107,h99,h102,h105,h112,h111,h109,h119,h110,if_false]
   have hbl : (batB b1 b2 b3 b4 b5 rs).length ≤ 1000000 := by have := zan b1 b2 b3 b4 b5 rs; omega
   rw [hp1,hp2]
   simp only [go_sem,zab,Nat.reduceAdd,Nat.reduceSub,Nat.reduceMul,Int.reduceToNat,reduceCtorEq,↓reduceIte,Int.reducePow,Nat.reducePow,Int.reduceMod,Nat.reduceLeDiff,Int.reduceLE,Int.reduceNe,Int.reduceEq,Nat.reduceEqDiff,Nat.reduceLT,Nat.reduceBEq,List.map_cons,List.map_nil,List.toList_toArray,Array.toList_append,Option.toArray_some,Option.toArray_none,Bool.and_self,ty,zdt,zay,zdn,zfp,yesO,zfq,e1,e2,e3,zdi,zcp,putS,zfr,zdd,hL,hex,hmr,hbl,zct,tk,Int.reduceEq,Nat.reduceEqDiff,or_self,or_false,false_or,or_true,true_or,if_true,if_false]
   exact zav 4 5 (by decide) rfl rfl rfl rfl rfl rfl
 · exact hp.elim
end
end Go.Proofs.Ytmedjkjoannbmaa
