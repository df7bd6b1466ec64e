/- What the proofs of this seat stand on; it asks nothing. -/
import Derived.Test.YtmedjkjoannbmaaZa12
set_option linter.unusedSimpArgs false
set_option linter.unusedVariables false
namespace Go.Proofs.Ytmedjkjoannbmaa
open Ax
section
set_option maxRecDepth 100000
set_option maxHeartbeats 4000000 in
theorem zfp : zaq Try.prog 15 usesS := by
 refine zak (S := noS) (T := ty) zas ty_ok zby Try.func15 (c := Try.f15.body.getD .skip) (by kernel_rfl) (by kernel_rfl) (fun xs pins hp _ => ?_)
 unfold usesS at hp ⊢
 split at hp
 · rename_i k _
   refine ⟨by simp,?_⟩
   unfold Try.f15
   rcases knd_cases k with ⟨h0,h1,h2,h3,h4,h5,h6,h7,h8,h9,h10,h11⟩ | rfl | rfl | rfl | rfl | rfl | rfl | rfl | rfl | rfl | rfl | rfl | rfl
   · have hu : zcr k = [] := by unfold zcr; simp only [h0,h1,h2,h3,h4,h5,h6,h7,h8,h9,h10,h11,if_false]
     have d0 := decide_eq_false h0
     have d1 := decide_eq_false h1
     have d2 := decide_eq_false h2
     have d3 := decide_eq_false h3
     have d4 := decide_eq_false h4
     have d5 := decide_eq_false h5
     have d6 := decide_eq_false h6
     have d7 := decide_eq_false h7
     have d8 := decide_eq_false h8
     have d9 := decide_eq_false h9
     have d10 := decide_eq_false h10
     have d11 := decide_eq_false h11
     simp only [go_sem,coe,zaa,Nat.reduceAdd,Nat.reduceSub,Nat.reduceMul,Int.reduceToNat,reduceCtorEq,↓reduceIte,Int.reducePow,Nat.reducePow,Int.reduceMod,Nat.reduceLeDiff,Int.reduceLE,Int.reduceNe,Int.reduceEq,Nat.reduceEqDiff,Nat.reduceLT,Nat.reduceBEq,ty,noS,hu,d0,d1,d2,d3,d4,d5,d6,d7,d8,d9,d10,d11]
   all_goals simp only [go_sem,coe,zaa,Nat.reduceAdd,Nat.reduceSub,Nat.reduceMul,Int.reduceToNat,reduceCtorEq,↓reduceIte,Int.reducePow,Nat.reducePow,Int.reduceMod,Nat.reduceLeDiff,Int.reduceLE,Int.reduceNe,Int.reduceEq,Nat.reduceEqDiff,Nat.reduceLT,Nat.reduceBEq,ty,noS,zcr,Int.reduceEq,decide_true,decide_false,if_true,if_false]
 · exact hp.elim
end
end Go.Proofs.Ytmedjkjoannbmaa
namespace Go.Proofs.Ytmedjkjoannbmaa
open Ax
def hasL (s : List UInt8) (c : Int) : Bool := s.any fun b => decide ((b.toNat : Int) = c)
def hasS : zai
 | [.str s,.w (.int .u8 c)],[] => ⟨s.length ≤ 1000000,.w (.bool (hasL s c)),[]⟩
 | _,_ => zba
section
set_option maxRecDepth 100000
set_option maxHeartbeats 2000000 in
theorem has22_sound : zaq Try.prog 65 hasS := by
 refine zbo (S := noS) (T := ty) zas ty_ok zby Try.func65 (c := Try.f65.body.getD .skip) (by kernel_rfl) (by kernel_rfl) (fun xs pins hp _ => ?_)
 unfold hasS at hp ⊢
 split at hp
 · rename_i s c _
   have hs : s.length ≤ 1000000 := hp
   refine ⟨by simp,?_⟩
   unfold Try.f65
   simp only [go_sem,coe,zaa,Nat.reduceAdd,Nat.reduceSub,Nat.reduceMul,Int.reduceToNat,reduceCtorEq,↓reduceIte,Int.reducePow,Nat.reducePow,Int.reduceMod,Nat.reduceLeDiff,Int.reduceLE,Int.reduceNe,Int.reduceEq,Nat.reduceEqDiff,Nat.reduceLT,Nat.reduceBEq,ty,noS]
   refine zca ⟨fun m σ => ∃ i : Nat,m = s.length - i ∧ i ≤ s.length ∧ hasL (s.drop i) c = hasL s c ∧
     σ = ⟨[.str s,.w (.int .u8 c),.junk,.junk,.junk,.w (.int .i64 i),.junk,.junk,.junk,.junk,.junk,.junk,.junk,.junk,.junk,.junk,.junk],[],4⟩,?_,?_⟩
   · refine ⟨_,_,zad [0,1,2,3] rfl rfl rfl ?_ ?_,0,rfl,by omega,rfl,rfl⟩
     · simp only [ssT,zae,zaf,setSlot,gOf,AV.ren,renL,Blk.ren,Ax.look,Ax.put,reduceCtorEq,↓reduceIte,Nat.reduceEqDiff,Nat.reduceLT,Nat.reduceAdd,List.length_append,List.length_cons,List.length_nil,Option.some.injEq]; try simp
     · simp only [ssT,zae,zaf,setSlot,gOf,AV.ren,renL,Blk.ren,Ax.look,Ax.put,reduceCtorEq,↓reduceIte,Nat.reduceEqDiff,Nat.reduceLT,Nat.reduceAdd,List.length_append,List.length_cons,List.length_nil,Option.some.injEq]
   · rintro m σ ⟨i,rfl,hi,hh,rfl⟩
     by_cases hil : i < s.length
     · have d1 : decide ((i : Int) < s.length) = true := decide_eq_true (by omega)
       have e1 : ((i : Int) + 1 + 9223372036854775808) % 18446744073709551616 - 9223372036854775808 = ((i + 1 : Nat) : Int) := by omega
       have eg : s.getD i 0 = s[i] := by simp [hil]
       rw [List.drop_eq_getElem_cons hil] at hh
       have hh : (decide ((s[i].toNat : Int) = c) || hasL (s.drop (i + 1)) c) = hasL s c := hh
       by_cases hc : (s[i].toNat : Int) = c
       · have d2 := decide_eq_true hc
         rw [d2,Bool.true_or] at hh
         rw [← hh]
         simp only [go_sem,coe,zaa,Nat.reduceAdd,Nat.reduceSub,Nat.reduceMul,Int.reduceToNat,reduceCtorEq,↓reduceIte,Int.reducePow,Nat.reducePow,Int.reduceMod,Nat.reduceLeDiff,Int.reduceLE,Int.reduceNe,Int.reduceEq,Nat.reduceEqDiff,Nat.reduceLT,Nat.reduceBEq,ty,noS,d1,eg,d2,Int.toNat_natCast]
         refine ⟨by omega,_,Weak.refl _,?_⟩
         simp only [go_sem,coe,zaa,Nat.reduceAdd,Nat.reduceSub,Nat.reduceMul,Int.reduceToNat,reduceCtorEq,↓reduceIte,Int.reducePow,Nat.reducePow,Int.reduceMod,Nat.reduceLeDiff,Int.reduceLE,Int.reduceNe,Int.reduceEq,Nat.reduceEqDiff,Nat.reduceLT,Nat.reduceBEq,ty,noS]
         exact zao 4 rfl
       · have d2 := decide_eq_false hc
         rw [d2,Bool.false_or] at hh
         simp only [go_sem,coe,zaa,Nat.reduceAdd,Nat.reduceSub,Nat.reduceMul,Int.reduceToNat,reduceCtorEq,↓reduceIte,Int.reducePow,Nat.reducePow,Int.reduceMod,Nat.reduceLeDiff,Int.reduceLE,Int.reduceNe,Int.reduceEq,Nat.reduceEqDiff,Nat.reduceLT,Nat.reduceBEq,ty,noS,d1,eg,d2,e1,Int.toNat_natCast]
         refine ⟨by omega,s.length - (i + 1),_,by omega,zad [0,1,2,3] rfl rfl rfl ?_ ?_,i + 1,rfl,by omega,hh,rfl⟩
         · simp only [ssT,zae,zaf,setSlot,gOf,AV.ren,renL,Blk.ren,Ax.look,Ax.put,reduceCtorEq,↓reduceIte,Nat.reduceEqDiff,Nat.reduceLT,Nat.reduceAdd,List.length_append,List.length_cons,List.length_nil,Option.some.injEq]
         · simp only [ssT,zae,zaf,setSlot,gOf,AV.ren,renL,Blk.ren,Ax.look,Ax.put,reduceCtorEq,↓reduceIte,Nat.reduceEqDiff,Nat.reduceLT,Nat.reduceAdd,List.length_append,List.length_cons,List.length_nil,Option.some.injEq]
     · have d1 : decide ((i : Int) < s.length) = false := decide_eq_false (by omega)
       rw [List.drop_of_length_le (by omega)] at hh
       have hh : false = hasL s c := hh
       rw [← hh]
       simp only [go_sem,coe,zaa,Nat.reduceAdd,Nat.reduceSub,Nat.reduceMul,Int.reduceToNat,reduceCtorEq,↓reduceIte,Int.reducePow,Nat.reducePow,Int.reduceMod,Nat.reduceLeDiff,Int.reduceLE,Int.reduceNe,Int.reduceEq,Nat.reduceEqDiff,Nat.reduceLT,Nat.reduceBEq,ty,noS,d1]
       refine ⟨_,Weak.refl _,?_⟩
       simp only [go_sem,coe,zaa,Nat.reduceAdd,Nat.reduceSub,Nat.reduceMul,Int.reduceToNat,reduceCtorEq,↓reduceIte,Int.reducePow,Nat.reducePow,Int.reduceMod,Nat.reduceLeDiff,Int.reduceLE,Int.reduceNe,Int.reduceEq,Nat.reduceEqDiff,Nat.reduceLT,Nat.reduceBEq,ty,noS]
       exact zao 4 rfl
 · exact hp.elim
end
theorem hs22_0 : hasL [116] 116 = true ∧ hasL [116] 105 = false ∧ hasL [116] 112 = false ∧ hasL [116] 99 = false ∧ hasL [116] 102 = false ∧ hasL [116] 111 = false ∧ hasL [116] 109 = false ∧ hasL [116] 119 = false ∧ hasL [116] 103 = false ∧ hasL [116] 107 = false ∧ hasL [116] 110 = false := by decide +kernel
theorem hs22_1 : hasL [103,107] 116 = false ∧ hasL [103,107] 105 = false ∧ hasL [103,107] 112 = false ∧ hasL [103,107] 99 = false ∧ hasL [103,107] 102 = false ∧ hasL [103,107] 111 = false ∧ hasL [103,107] 109 = false ∧ hasL [103,107] 119 = false ∧ hasL [103,107] 103 = true ∧ hasL [103,107] 107 = true ∧ hasL [103,107] 110 = false := by decide +kernel
theorem hs22_2 : hasL [103,107,110] 116 = false ∧ hasL [103,107,110] 105 = false ∧ hasL [103,107,110] 112 = false ∧ hasL [103,107,110] 99 = false ∧ hasL [103,107,110] 102 = false ∧ hasL [103,107,110] 111 = false ∧ hasL [103,107,110] 109 = false ∧ hasL [103,107,110] 119 = false ∧ hasL [103,107,110] 103 = true ∧ hasL [103,107,110] 107 = true ∧ hasL [103,107,110] 110 = true := by decide +kernel
theorem hs22_3 : hasL [116,105,103] 116 = true ∧ hasL [116,105,103] 105 = true ∧ hasL [116,105,103] 112 = false ∧ hasL [116,105,103] 99 = false ∧ hasL [116,105,103] 102 = false ∧ hasL [116,105,103] 111 = false ∧ hasL [116,105,103] 109 = false ∧ hasL [116,105,103] 119 = false ∧ hasL [116,105,103] 103 = true ∧ hasL [116,105,103] 107 = false ∧ hasL [116,105,103] 110 = false := by decide +kernel
theorem hs22_4 : hasL [116,105,119] 116 = true ∧ hasL [116,105,119] 105 = true ∧ hasL [116,105,119] 112 = false ∧ hasL [116,105,119] 99 = false ∧ hasL [116,105,119] 102 = false ∧ hasL [116,105,119] 111 = false ∧ hasL [116,105,119] 109 = false ∧ hasL [116,105,119] 119 = true ∧ hasL [116,105,119] 103 = false ∧ hasL [116,105,119] 107 = false ∧ hasL [116,105,119] 110 = false := by decide +kernel
theorem hs22_5 : hasL [116,112,99] 116 = true ∧ hasL [116,112,99] 105 = false ∧ hasL [116,112,99] 112 = true ∧ hasL [116,112,99] 99 = true ∧ hasL [116,112,99] 102 = false ∧ hasL [116,112,99] 111 = false ∧ hasL [116,112,99] 109 = false ∧ hasL [116,112,99] 119 = false ∧ hasL [116,112,99] 103 = false ∧ hasL [116,112,99] 107 = false ∧ hasL [116,112,99] 110 = false := by decide +kernel
theorem hs22_6 : hasL [116,103,107,110] 116 = true ∧ hasL [116,103,107,110] 105 = false ∧ hasL [116,103,107,110] 112 = false ∧ hasL [116,103,107,110] 99 = false ∧ hasL [116,103,107,110] 102 = false ∧ hasL [116,103,107,110] 111 = false ∧ hasL [116,103,107,110] 109 = false ∧ hasL [116,103,107,110] 119 = false ∧ hasL [116,103,107,110] 103 = true ∧ hasL [116,103,107,110] 107 = true ∧ hasL [116,103,107,110] 110 = true := by decide +kernel
theorem hs22_7 : hasL [116,105,102,98] 116 = true ∧ hasL [116,105,102,98] 105 = true ∧ hasL [116,105,102,98] 112 = false ∧ hasL [116,105,102,98] 99 = false ∧ hasL [116,105,102,98] 102 = true ∧ hasL [116,105,102,98] 111 = false ∧ hasL [116,105,102,98] 109 = false ∧ hasL [116,105,102,98] 119 = false ∧ hasL [116,105,102,98] 103 = false ∧ hasL [116,105,102,98] 107 = false ∧ hasL [116,105,102,98] 110 = false := by decide +kernel
theorem hs22_8 : hasL [116,105,111,109] 116 = true ∧ hasL [116,105,111,109] 105 = true ∧ hasL [116,105,111,109] 112 = false ∧ hasL [116,105,111,109] 99 = false ∧ hasL [116,105,111,109] 102 = false ∧ hasL [116,105,111,109] 111 = true ∧ hasL [116,105,111,109] 109 = true ∧ hasL [116,105,111,109] 119 = false ∧ hasL [116,105,111,109] 103 = false ∧ hasL [116,105,111,109] 107 = false ∧ hasL [116,105,111,109] 110 = false := by decide +kernel
theorem hs22_9 : hasL [116,105,111,103,107,110] 116 = true ∧ hasL [116,105,111,103,107,110] 105 = true ∧ hasL [116,105,111,103,107,110] 112 = false ∧ hasL [116,105,111,103,107,110] 99 = false ∧ hasL [116,105,111,103,107,110] 102 = false ∧ hasL [116,105,111,103,107,110] 111 = true ∧ hasL [116,105,111,103,107,110] 109 = false ∧ hasL [116,105,111,103,107,110] 119 = false ∧ hasL [116,105,111,103,107,110] 103 = true ∧ hasL [116,105,111,103,107,110] 107 = true ∧ hasL [116,105,111,103,107,110] 110 = true := by decide +kernel
def Sonly22 (f : FuncId) : Option zai :=
 match f with
 | 15 => some usesS
 | 65 => some hasS
 | _ => none
theorem Sonly22_ok : Fns Try.prog Sonly22 := by
 intro f s h
 unfold Sonly22 at h
 split at h
 · injection h with h; subst h; exact ⟨⟨_,Try.func15,by kernel_rfl,by kernel_rfl⟩,zfp⟩
 · injection h with h; subst h; exact ⟨⟨_,Try.func65,by kernel_rfl,by kernel_rfl⟩,has22_sound⟩
 · cases h
def only22Pl : Plan := fun id => match id with
 | 8 => some [(2,5),(3,5)]
 | 10 => some [(2,5),(3,5)]
 | _ => none
section
set_option maxRecDepth 100000
set_option maxHeartbeats 40000000 in
theorem only22_sound : zaq Try.prog 28 zcw := by
 refine fn_soundF (S := Sonly22) (T := ty) (pl := only22Pl) zas ty_ok Sonly22_ok Try.func28 (c := Try.f28.body.getD .skip) (by kernel_rfl) (by kernel_rfl) (fun xs pins hp _ => ?_)
 unfold zcw at hp ⊢
 split at hp
 · rename_i k t i p c f o m w g mb n b1 b2 b3 b4 b5 xs fl _
   have hk : 0 ≤ k ∧ k ≤ 11 := hp
   refine ⟨by simp,?_⟩
   rcases knd_le k hk with rfl | rfl | rfl | rfl | rfl | rfl | rfl | rfl | rfl | rfl | rfl | rfl
   all_goals
     unfold Try.f28
     simp only [go_sem,coe,zac,Nat.reduceAdd,Nat.reduceSub,Nat.reduceMul,Int.reduceToNat,reduceCtorEq,↓reduceIte,Int.reducePow,Nat.reducePow,Int.reduceMod,Nat.reduceLeDiff,Int.reduceLE,Int.reduceNe,Int.reduceEq,Nat.reduceEqDiff,Nat.reduceLT,Nat.reduceBEq,List.map_cons,List.map_nil,List.toList_toArray,Array.toList_append,Option.toArray_some,Option.toArray_none,Bool.and_self,ty,Sonly22,only22Pl,usesS,zcr,hasS,fillS,Int.reduceEq,Int.reduceLT,Int.reduceLE,or_self,or_false,false_or,or_true,true_or,if_true,if_false,hs22_0,hs22_1,hs22_2,hs22_3,hs22_4,hs22_5,hs22_6,hs22_7,hs22_8,hs22_9]
     refine ⟨_,Weak.refl _,?_⟩
     simp only [go_sem,coe,zac,Nat.reduceAdd,Nat.reduceSub,Nat.reduceMul,Int.reduceToNat,reduceCtorEq,↓reduceIte,Int.reducePow,Nat.reducePow,Int.reduceMod,Nat.reduceLeDiff,Int.reduceLE,Int.reduceNe,Int.reduceEq,Nat.reduceEqDiff,Nat.reduceLT,Nat.reduceBEq,List.map_cons,List.map_nil,List.toList_toArray,Array.toList_append,Option.toArray_some,Option.toArray_none,Bool.and_self,ty,onlyQ,Int.reduceEq,Int.reduceLT,Int.reduceLE,or_self,or_false,false_or,or_true,true_or,if_true,if_false]
 · exact hp.elim
end
end Go.Proofs.Ytmedjkjoannbmaa
namespace Go.Proofs.Ytmedjkjoannbmaa
open Ax
def Srsreq22 (f : FuncId) : Option zai :=
 match f with
 | 34 => some zeg
 | _ => none
theorem Srsreq22_ok : Fns Try.prog Srsreq22 := by
 intro f s h
 unfold Srsreq22 at h
 split at h
 · injection h with h; subst h; exact ⟨⟨_,Try.func34,by kernel_rfl,by kernel_rfl⟩,rsame4_sound⟩
 · cases h
section
set_option maxRecDepth 100000
set_option maxHeartbeats 8000000 in
theorem rsreq22_sound : zaq Try.prog 13 zfe := by
 refine zbo (S := Srsreq22) (T := ty) zas ty_ok Srsreq22_ok Try.func13 (c := Try.f13.body.getD .skip) (by kernel_rfl) (by kernel_rfl) (fun xs pins hp _ => ?_)
 unfold zfe at hp ⊢
 split at hp
 · rename_i k t i p c f o m w g mb n b1 b2 b3 b4 b5 xs fl k' t' i' p' c' f' o' m' w' g' mb' n' b1' b2' b3' b4' b5' ys fm _
   obtain ⟨hX,hY1,hY2⟩ := hp
   refine ⟨by simp,?_⟩
   unfold Try.f13
   rcases eqQ_cases k t i p c f o m w g mb n k' t' i' p' c' f' o' m' w' g' mb' n' with D | D | D | D | D | D | D | D | D | D | D | D | D
   all_goals
     simp only [go_sem,coe,zaa,Nat.reduceAdd,Nat.reduceSub,Nat.reduceMul,Int.reduceToNat,reduceCtorEq,↓reduceIte,Int.reducePow,Nat.reducePow,Int.reduceMod,Nat.reduceLeDiff,Int.reduceLE,Int.reduceNe,Int.reduceEq,Nat.reduceEqDiff,Nat.reduceLT,Nat.reduceBEq,ty,Srsreq22,zeg,hX,hY1,hY2,D]
     exact zao 4 rfl
 · exact hp.elim
end
end Go.Proofs.Ytmedjkjoannbmaa
namespace Go.Proofs.Ytmedjkjoannbmaa
open Ax
def zbw : XPlan := fun id => match id with
 | 3 => .prs [(0,2)]
 | _ => .std
theorem cst22 : ((0 : Nat) : Int) = 0 ∧ ((1 : Nat) : Int) = 1 ∧ ((2 : Nat) : Int) = 2 ∧ ((3 : Nat) : Int) = 3 ∧ ((4 : Nat) : Int) = 4 ∧ ((5 : Nat) : Int) = 5 ∧ ((6 : Nat) : Int) = 6 := ⟨rfl,rfl,rfl,rfl,rfl,rfl,rfl⟩
theorem gx22_7 : (([116,105,102,98] : List UInt8).getD 0 0).toNat = 116 ∧ (([116,105,102,98] : List UInt8).getD 1 0).toNat = 105 ∧ (([116,105,102,98] : List UInt8).getD 2 0).toNat = 102 ∧ (([116,105,102,98] : List UInt8).getD 3 0).toNat = 98 := by decide +kernel
theorem lt22 : ((99 : UInt8).toNat : Nat) = 99 ∧ ((102 : UInt8).toNat : Nat) = 102 ∧ ((103 : UInt8).toNat : Nat) = 103 ∧ ((105 : UInt8).toNat : Nat) = 105 ∧ ((107 : UInt8).toNat : Nat) = 107 ∧ ((109 : UInt8).toNat : Nat) = 109 ∧ ((110 : UInt8).toNat : Nat) = 110 ∧ ((111 : UInt8).toNat : Nat) = 111 ∧ ((112 : UInt8).toNat : Nat) = 112 ∧ ((116 : UInt8).toNat : Nat) = 116 ∧ ((119 : UInt8).toNat : Nat) = 119 := by decide
def zco (f : FuncId) : Option zai :=
 match f with
 | 28 => some zcw
 | 13 => some zfe
 | 29 => some zfn
 | 30 => some zcg
 | 31 => some putS
 | 15 => some usesS
 | 32 => some zde
 | _ => none
theorem SrputQ_ok : Fns Try.prog zco := by
 intro f s h
 unfold zco at h
 split at h
 · injection h with h; subst h; exact ⟨⟨_,Try.func28,by kernel_rfl,by kernel_rfl⟩,only22_sound⟩
 · injection h with h; subst h; exact ⟨⟨_,Try.func13,by kernel_rfl,by kernel_rfl⟩,rsreq22_sound⟩
 · injection h with h; subst h; exact ⟨⟨_,Try.func29,by kernel_rfl,by kernel_rfl⟩,rput4_sound⟩
 · injection h with h; subst h; exact ⟨⟨_,Try.func30,by kernel_rfl,by kernel_rfl⟩,rtext_sound⟩
 · injection h with h; subst h; exact ⟨⟨_,Try.func31,by kernel_rfl,by kernel_rfl⟩,rput_sound⟩
 · injection h with h; subst h; exact ⟨⟨_,Try.func15,by kernel_rfl,by kernel_rfl⟩,zfp⟩
 · injection h with h; subst h; exact ⟨⟨_,Try.func32,by kernel_rfl,by kernel_rfl⟩,flag22_sound⟩
 · cases h
section
set_option maxRecDepth 100000
set_option maxHeartbeats 8000000 in
theorem rputQ_k3 (t : List UInt8) (i p : Int) (c f : Bool) (o m w : Int) (g mb : List UInt8) (n b1 b2 b3 b4 b5 : Int) (rs : List Rec) (fl : Bool) (hc : chkQ 3 t i p c f o m w g mb n b1 b2 b3 b4 b5 rs = 0) (hq : lenQ t g mb) (hr : intQ i p o m w n) (h40 : (rs.map rv).length ≤ 40) :
   awpO zco noO ty zbw (Try.f11.body.getD .skip) (EndsW ty Try.f11.results.toList [] ⟨True,.tup [.ms 0 1 0 (layQ 3 t i p c f o m w g mb n b1 b2 b3 b4 b5 rs).length,.w (.int .i64 0)],[.b (layQ 3 t i p c f o m w g mb n b1 b2 b3 b4 b5 rs)]⟩) ⟨[.agg [.w (.int .u8 3),.str t,.w (.int .i64 i),.w (.int .i64 p),.w (.bool c),.w (.bool f),.w (.int .i64 o),.w (.int .i64 m),.w (.int .i64 w),.str g,.str mb,.w (.int .i64 n),.w (.int .i64 b1),.w (.int .i64 b2),.w (.int .i64 b3),.w (.int .i64 b4),.w (.int .i64 b5),.sg 6 (rs.map rv) fl]] ++ List.replicate (Try.f11.ntmps - 1) .junk,pinHeap 0 [],4⟩ := by
 have hso := (chkQ_ok rs hc).2.1
 obtain ⟨q1,q2,q3⟩ := hq
 obtain ⟨r1,r2,r3,r4,r5,r6⟩ := hr
 have lq : lenQ t g mb := ⟨q1,q2,q3⟩
 have iq : intQ i p o m w n := ⟨r1,r2,r3,r4,r5,r6⟩
 obtain ⟨-,-,hlong,hb⟩ := chkQ_ok rs hc
 unfold zfk at hlong
 have g1 := zax t q1
 have g2 := zax g q2
 have g3 := zax mb q3
 have l1 := zbk i r1
 have l2 := zbk p r2
 have l3 := zbk o r3
 have l4 := zbk m r4
 have l5 := zbk w r5
 have l6 := zbk n r6
 unfold okI at r1 r2 r3 r4 r5 r6
 have hbl := zdx b1 b2 b3 b4 b5 rs
 have g4 := zax (batB b1 b2 b3 b4 b5 rs) (by omega)
 have hL : (rs.map rv).length ≤ 9223372036854775807 := by omega
 have hmr := zah rs
 have hex : ∃ qs : List Rec,rs.map rv = qs.map rv := ⟨rs,rfl⟩
 have tk : ∀ l : List UInt8,List.take l.length l = l := fun l => List.take_length
 obtain ⟨hbE,rfl⟩ := hb rfl
 have hLay : layQ 3 t i p c f o m w g mb n 0 b2 b3 b4 b5 rs = UInt8.ofNat 3 :: (zbc t ++ (pq i ++ ([UInt8.ofNat (bitN f).toNat] ++ (zbc (batB 0 b2 b3 b4 b5 rs))))) := by simp [layQ,zcr,zcs]
 obtain ⟨Y,hY⟩ : ∃ x,layQ 3 t i p c f o m w g mb n 0 b2 b3 b4 b5 rs = x := ⟨_,rfl⟩
 rw [hY] at hLay ⊢
 obtain ⟨t',i',p',c',f',o',m',w',g',mb',n',b1',b2',b3',b4',b5',ys,fm,hO,hY1,hY2,hS⟩ := only_told 3 t i p c f o m w g mb n 0 b2 b3 b4 b5 rs fl hL
 rw [hso] at hS
 have d1 : decide ((255 : Int) < t.length) = false := decide_eq_false (by omega)
 have d2 : decide ((255 : Int) < g.length) = false := decide_eq_false (by omega)
 have d3 : decide ((255 : Int) < mb.length) = false := decide_eq_false (by omega)
 have hbt : (batB 0 b2 b3 b4 b5 rs).length ≤ 1000000 := by have := zdx 0 b2 b3 b4 b5 rs; omega
 unfold Try.f11
 simp only [go_sem,zab,Nat.reduceAdd,Nat.reduceSub,Nat.reduceMul,Int.reduceToNat,reduceCtorEq,↓reduceIte,Int.reducePow,Nat.reducePow,Int.reduceMod,Nat.reduceLeDiff,Int.reduceLE,Int.reduceNe,Int.reduceEq,Nat.reduceEqDiff,Nat.reduceLT,Nat.reduceBEq,List.map_cons,List.map_nil,List.toList_toArray,Array.toList_append,Option.toArray_some,Option.toArray_none,Bool.and_self,ty,zco,zbw,zcw,zfe,zfn,zcg,usesS,zcr,hO,hY1,hY2,hS,d1,d2,d3,hc,hL,h40,hex,hmr,hbt,hbE,tk,Int.reduceEq,Nat.reduceEqDiff,or_self,or_false,false_or,or_true,true_or,if_true,if_false,Int.reduceLE,Int.reduceLT]
 refine awpO_unr 6 ?_
 simp only [go_sem,zab,Nat.reduceAdd,Nat.reduceSub,Nat.reduceMul,Int.reduceToNat,reduceCtorEq,↓reduceIte,Int.reducePow,Nat.reducePow,Int.reduceMod,Nat.reduceLeDiff,Int.reduceLE,Int.reduceNe,Int.reduceEq,Nat.reduceEqDiff,Nat.reduceLT,Nat.reduceBEq,List.map_cons,List.map_nil,List.toList_toArray,Array.toList_append,Option.toArray_some,Option.toArray_none,Bool.and_self,ty,zco,zbw,zcg,putS,zde,unrO_go,unK_normal,unK_exit,unK_ret,Int.reduceAdd,Int.reduceSub,Int.cast_ofNat_Int,q1,q2,q3,r1,r2,r3,r4,r5,r6,zbt,tk,cst22,gx22_7,Int.reduceEq,Nat.reduceEqDiff,or_self,or_false,false_or,or_true,true_or,if_true,if_false,Int.reduceLT]
 repeat (refine And.intro (by first | decide | (unfold top; simp only [List.length_append,List.length_cons,List.length_nil]; omega) | (unfold top; omega)) ?_)
 exact zbn 2 3 (by decide) rfl rfl rfl (by simp; try omega) (by rw [hLay]; try simp) rfl
set_option maxHeartbeats 8000000 in
theorem rputQ_loop (k : Int) (hk0 : 0 ≤ k) (hk : k ≤ 11) (hk3 : k ≠ 3) (t : List UInt8) (i p : Int) (c f : Bool) (o m w : Int) (g mb : List UInt8) (n b1 b2 b3 b4 b5 : Int) (rs : List Rec) (fl : Bool) (hc : chkQ k t i p c f o m w g mb n b1 b2 b3 b4 b5 rs = 0) (hq : lenQ t g mb) (hr : intQ i p o m w n) (h40 : (rs.map rv).length ≤ 40) :
   awpO zco noO ty zbw (Try.f11.body.getD .skip) (EndsW ty Try.f11.results.toList [] ⟨True,.tup [.ms 0 1 0 (layQ k t i p c f o m w g mb n b1 b2 b3 b4 b5 rs).length,.w (.int .i64 0)],[.b (layQ k t i p c f o m w g mb n b1 b2 b3 b4 b5 rs)]⟩) ⟨[.agg [.w (.int .u8 k),.str t,.w (.int .i64 i),.w (.int .i64 p),.w (.bool c),.w (.bool f),.w (.int .i64 o),.w (.int .i64 m),.w (.int .i64 w),.str g,.str mb,.w (.int .i64 n),.w (.int .i64 b1),.w (.int .i64 b2),.w (.int .i64 b3),.w (.int .i64 b4),.w (.int .i64 b5),.sg 6 (rs.map rv) fl]] ++ List.replicate (Try.f11.ntmps - 1) .junk,pinHeap 0 [],4⟩ := by
 have hso := (chkQ_ok rs hc).2.1
 obtain ⟨q1,q2,q3⟩ := hq
 obtain ⟨r1,r2,r3,r4,r5,r6⟩ := hr
 have lq : lenQ t g mb := ⟨q1,q2,q3⟩
 have iq : intQ i p o m w n := ⟨r1,r2,r3,r4,r5,r6⟩
 obtain ⟨-,-,hlong,hb⟩ := chkQ_ok rs hc
 unfold zfk at hlong
 have g1 := zax t q1
 have g2 := zax g q2
 have g3 := zax mb q3
 have l1 := zbk i r1
 have l2 := zbk p r2
 have l3 := zbk o r3
 have l4 := zbk m r4
 have l5 := zbk w r5
 have l6 := zbk n r6
 unfold okI at r1 r2 r3 r4 r5 r6
 have hbl := zdx b1 b2 b3 b4 b5 rs
 have g4 := zax (batB b1 b2 b3 b4 b5 rs) (by omega)
 have hL : (rs.map rv).length ≤ 9223372036854775807 := by omega
 have hmr := zah rs
 have hex : ∃ qs : List Rec,rs.map rv = qs.map rv := ⟨rs,rfl⟩
 have tk : ∀ l : List UInt8,List.take l.length l = l := fun l => List.take_length
 have hdec : ∀ j,j < (zcr k).length → True := fun _ _ => trivial
 have hul := uses_len k
 have hlet := uses_let k
 obtain ⟨F,hF⟩ : ∃ F : UInt8 → List UInt8,(fun x : UInt8 => zcs (x.toNat : Int) t i p c f o m w g mb n b1 b2 b3 b4 b5 rs) = F := ⟨_,rfl⟩
 have hFx : ∀ x : UInt8,zcs (x.toNat : Int) t i p c f o m w g mb n b1 b2 b3 b4 b5 rs = F x := fun x => congrFun hF x
 have hFl : ∀ x,(F x).length ≤ 1000010 := fun x => by rw [← hFx x]; exact piece_len _ t i p c f o m w g mb n b1 b2 b3 b4 b5 rs lq iq
 have hLay : layQ k t i p c f o m w g mb n b1 b2 b3 b4 b5 rs = UInt8.ofNat k.toNat :: (zcr k).flatMap F := by rw [← hF]; rfl
 rw [hLay]
 obtain ⟨L,hLL⟩ : ∃ L,zcr k = L := ⟨_,rfl⟩
 rw [hLL] at hul hlet
 rw [hLL]
 clear hF hLay hdec
 obtain ⟨t',i',p',c',f',o',m',w',g',mb',n',b1',b2',b3',b4',b5',ys,fm,hO,hY1,hY2,hS⟩ := only_told k t i p c f o m w g mb n b1 b2 b3 b4 b5 rs fl hL
 rw [hso] at hS
 have d1 : decide ((255 : Int) < t.length) = false := decide_eq_false (by omega)
 have d2 : decide ((255 : Int) < g.length) = false := decide_eq_false (by omega)
 have d3 : decide ((255 : Int) < mb.length) = false := decide_eq_false (by omega)
 have d4 : decide ((11 : Int) < k) = false := decide_eq_false (by omega)
 have d5 : decide (k = 3) = false := decide_eq_false hk3
 have hk2 : k < 256 := by omega
 unfold Try.f11
 simp only [go_sem,zab,Nat.reduceAdd,Nat.reduceSub,Nat.reduceMul,Int.reduceToNat,reduceCtorEq,↓reduceIte,Int.reducePow,Nat.reducePow,Int.reduceMod,Nat.reduceLeDiff,Int.reduceLE,Int.reduceNe,Int.reduceEq,Nat.reduceEqDiff,Nat.reduceLT,Nat.reduceBEq,List.map_cons,List.map_nil,List.toList_toArray,Array.toList_append,Option.toArray_some,Option.toArray_none,Bool.and_self,ty,zco,zbw,zcw,zfe,usesS,hLL,hO,hY1,hY2,hS,d1,d2,d3,d4,d5,hk0,hk2,hk,hL,h40,hex,hmr,tk]
 refine zdl ⟨fun mm σ => ∃ j : Nat,mm = L.length - j ∧ j ≤ L.length ∧
   σ = ⟨[.agg [.w (.int .u8 k),.str t,.w (.int .i64 i),.w (.int .i64 p),.w (.bool c),.w (.bool f),.w (.int .i64 o),.w (.int .i64 m),.w (.int .i64 w),.str g,.str mb,.w (.int .i64 n),.w (.int .i64 b1),.w (.int .i64 b2),.w (.int .i64 b3),.w (.int .i64 b4),.w (.int .i64 b5),.sg 6 (rs.map rv) fl],.rf 4 18 0 0,.junk,.junk,.junk,.junk,.junk,.junk,.str L,.ms 5 1 0 (UInt8.ofNat k.toNat :: (L.take j).flatMap F).length,.w (.int .i64 j),.junk,.junk,.junk,.junk,.junk,.junk,.junk,.junk,.junk,.junk,.junk,.junk,.junk,.junk,.junk,.junk,.junk,.junk,.junk,.junk,.junk,.junk,.junk,.junk,.junk,.junk,.junk,.junk,.junk,.junk,.junk,.junk,.junk,.junk,.junk,.junk,.junk,.junk,.junk,.junk,.junk,.junk,.junk,.junk,.junk,.junk,.junk,.junk,.junk,.junk,.junk,.junk,.junk,.junk,.junk,.junk,.junk,.junk,.junk,.junk,.junk,.junk,.junk,.junk,.junk,.junk,.junk,.junk,.junk,.junk,.junk,.junk,.junk,.junk,.junk,.junk,.junk,.junk,.junk,.junk,.junk,.junk,.junk,.junk,.junk,.junk,.junk,.junk,.junk,.junk,.junk,.junk,.junk,.junk,.junk,.junk,.junk,.junk,.junk,.junk,.junk,.junk,.junk,.junk,.junk,.junk,.junk,.junk,.junk,.junk,.junk,.junk,.junk,.junk,.junk,.junk,.junk,.junk,.junk,.junk,.junk,.junk,.junk,.junk,.junk,.junk,.junk,.junk,.junk,.junk,.junk,.junk,.junk,.junk,.junk,.junk,.junk,.junk,.junk,.junk,.junk,.junk,.junk,.junk,.junk,.junk],[(4,.g 18 [.agg [.w (.int .u8 k),.str t,.w (.int .i64 i),.w (.int .i64 p),.w (.bool c),.w (.bool f),.w (.int .i64 o),.w (.int .i64 m),.w (.int .i64 w),.str g,.str mb,.w (.int .i64 n),.w (.int .i64 b1),.w (.int .i64 b2),.w (.int .i64 b3),.w (.int .i64 b4),.w (.int .i64 b5),.sg 6 (rs.map rv) fl]]),(5,.b (UInt8.ofNat k.toNat :: (L.take j).flatMap F))],6⟩,?_,?_⟩
 · refine ⟨_,_,zad [0,1,2,3,4,324] rfl rfl rfl ?_ ?_,0,rfl,by omega,rfl⟩
   · simp only [ssT,zae,zaf,setSlot,gOf,AV.ren,renL,Blk.ren,Ax.look,Ax.put,reduceCtorEq,↓reduceIte,Nat.reduceEqDiff,Nat.reduceLT,Nat.reduceAdd,List.length_append,List.length_cons,List.length_nil,Option.some.injEq]; try simp
   · simp only [ssT,zae,zaf,setSlot,gOf,AV.ren,renL,Blk.ren,Ax.look,Ax.put,reduceCtorEq,↓reduceIte,Nat.reduceEqDiff,Nat.reduceLT,Nat.reduceAdd,List.length_append,List.length_cons,List.length_nil,Option.some.injEq]; try simp
 · rintro m' σ ⟨j,rfl,hj,rfl⟩
   have hcl := flat_le22 F 1000010 hFl (L.take j)
   have htl : (L.take j).length = j := by rw [List.length_take]; omega
   rw [htl] at hcl
   by_cases hjl : j < L.length
   · have e0 : decide ((j : Int) < (L.length : Int)) = true := decide_eq_true (by omega)
     have ej : ((j : Int) + 1 + 9223372036854775808) % 18446744073709551616 - 9223372036854775808 = ((j + 1 : Nat) : Int) := by omega
     have hx1 : L.getD j 0 = L[j] := by rw [List.getD_eq_getElem?_getD,List.getElem?_eq_getElem hjl]; rfl
     have hlx := hlet L[j] (List.getElem_mem hjl)
     have hP := hFx L[j]
     have hn := hFl L[j]
     have htake : (L.take (j + 1)).flatMap F = (L.take j).flatMap F ++ F L[j] := by
       rw [List.take_succ_eq_append_getElem hjl,List.flatMap_append]; simp
     obtain ⟨x,hx⟩ : ∃ x,L[j] = x := ⟨_,rfl⟩
     rw [hx] at hx1 hlx hP hn htake
     obtain ⟨Z,hZ⟩ : ∃ Z,(L.take j).flatMap F = Z := ⟨_,rfl⟩
     rw [hZ] at hcl htake ⊢
     rcases hlx with hlx | hlx
     rotate_left 1
     · exact (hk3 hlx.2).elim
     rcases hlx with rfl | rfl | rfl | rfl | rfl | rfl | rfl | rfl | rfl | rfl | rfl
     · have hP2 : F 116 = zbc t := by rw [← hP]; rfl
       rw [hP2] at hn htake
       simp only [go_sem,zab,Nat.reduceAdd,Nat.reduceSub,Nat.reduceMul,Int.reduceToNat,reduceCtorEq,↓reduceIte,Int.reducePow,Nat.reducePow,Int.reduceMod,Nat.reduceLeDiff,Int.reduceLE,Int.reduceNe,Int.reduceEq,Nat.reduceEqDiff,Nat.reduceLT,Nat.reduceBEq,List.map_cons,List.map_nil,List.toList_toArray,Array.toList_append,Option.toArray_some,Option.toArray_none,Bool.and_self,ty,zco,zbw,zcg,putS,zde,e0,ej,hx1,q1,q2,q3,r1,r2,r3,r4,r5,r6,zbt,tk,lt22,cst22,Int.reduceEq,Int.toNat_natCast,Int.cast_ofNat_Int]
       repeat (refine And.intro (by first | decide | omega | (unfold top; omega) | (unfold top; simp only [List.length_cons,List.length_nil]; omega)) ?_)
       refine ⟨L.length - (j + 1),_,by omega,zad [0,1,2,3,4,110] rfl rfl rfl ?_ ?_,j + 1,rfl,by omega,rfl⟩
       · simp only [ssT,zae,zaf,setSlot,gOf,AV.ren,renL,Blk.ren,Ax.look,Ax.put,reduceCtorEq,↓reduceIte,Nat.reduceEqDiff,Nat.reduceLT,Nat.reduceAdd,List.length_append,List.length_cons,List.length_nil,Option.some.injEq,htake]; try simp
         try exact Nat.add_right_comm _ _ _
       · simp only [ssT,zae,zaf,setSlot,gOf,AV.ren,renL,Blk.ren,Ax.look,Ax.put,reduceCtorEq,↓reduceIte,Nat.reduceEqDiff,Nat.reduceLT,Nat.reduceAdd,List.length_append,List.length_cons,List.length_nil,Option.some.injEq,htake]; try simp
     · have hP2 : F 103 = zbc g := by rw [← hP]; rfl
       rw [hP2] at hn htake
       simp only [go_sem,zab,Nat.reduceAdd,Nat.reduceSub,Nat.reduceMul,Int.reduceToNat,reduceCtorEq,↓reduceIte,Int.reducePow,Nat.reducePow,Int.reduceMod,Nat.reduceLeDiff,Int.reduceLE,Int.reduceNe,Int.reduceEq,Nat.reduceEqDiff,Nat.reduceLT,Nat.reduceBEq,List.map_cons,List.map_nil,List.toList_toArray,Array.toList_append,Option.toArray_some,Option.toArray_none,Bool.and_self,ty,zco,zbw,zcg,putS,zde,e0,ej,hx1,q1,q2,q3,r1,r2,r3,r4,r5,r6,zbt,tk,lt22,cst22,Int.reduceEq,Int.toNat_natCast,Int.cast_ofNat_Int]
       repeat (refine And.intro (by first | decide | omega | (unfold top; omega) | (unfold top; simp only [List.length_cons,List.length_nil]; omega)) ?_)
       refine ⟨L.length - (j + 1),_,by omega,zad [0,1,2,3,4,238] rfl rfl rfl ?_ ?_,j + 1,rfl,by omega,rfl⟩
       · simp only [ssT,zae,zaf,setSlot,gOf,AV.ren,renL,Blk.ren,Ax.look,Ax.put,reduceCtorEq,↓reduceIte,Nat.reduceEqDiff,Nat.reduceLT,Nat.reduceAdd,List.length_append,List.length_cons,List.length_nil,Option.some.injEq,htake]; try simp
         try exact Nat.add_right_comm _ _ _
       · simp only [ssT,zae,zaf,setSlot,gOf,AV.ren,renL,Blk.ren,Ax.look,Ax.put,reduceCtorEq,↓reduceIte,Nat.reduceEqDiff,Nat.reduceLT,Nat.reduceAdd,List.length_append,List.length_cons,List.length_nil,Option.some.injEq,htake]; try simp
     · have hP2 : F 107 = zbc mb := by rw [← hP]; rfl
       rw [hP2] at hn htake
       simp only [go_sem,zab,Nat.reduceAdd,Nat.reduceSub,Nat.reduceMul,Int.reduceToNat,reduceCtorEq,↓reduceIte,Int.reducePow,Nat.reducePow,Int.reduceMod,Nat.reduceLeDiff,Int.reduceLE,Int.reduceNe,Int.reduceEq,Nat.reduceEqDiff,Nat.reduceLT,Nat.reduceBEq,List.map_cons,List.map_nil,List.toList_toArray,Array.toList_append,Option.toArray_some,Option.toArray_none,Bool.and_self,ty,zco,zbw,zcg,putS,zde,e0,ej,hx1,q1,q2,q3,r1,r2,r3,r4,r5,r6,zbt,tk,lt22,cst22,Int.reduceEq,Int.toNat_natCast,Int.cast_ofNat_Int]
       repeat (refine And.intro (by first | decide | omega | (unfold top; omega) | (unfold top; simp only [List.length_cons,List.length_nil]; omega)) ?_)
       refine ⟨L.length - (j + 1),_,by omega,zad [0,1,2,3,4,254] rfl rfl rfl ?_ ?_,j + 1,rfl,by omega,rfl⟩
       · simp only [ssT,zae,zaf,setSlot,gOf,AV.ren,renL,Blk.ren,Ax.look,Ax.put,reduceCtorEq,↓reduceIte,Nat.reduceEqDiff,Nat.reduceLT,Nat.reduceAdd,List.length_append,List.length_cons,List.length_nil,Option.some.injEq,htake]; try simp
         try exact Nat.add_right_comm _ _ _
       · simp only [ssT,zae,zaf,setSlot,gOf,AV.ren,renL,Blk.ren,Ax.look,Ax.put,reduceCtorEq,↓reduceIte,Nat.reduceEqDiff,Nat.reduceLT,Nat.reduceAdd,List.length_append,List.length_cons,List.length_nil,Option.some.injEq,htake]; try simp
     · have hP2 : F 99 = [UInt8.ofNat (bitN c).toNat] := by rw [← hP]; rfl
       rw [hP2] at hn htake
       simp only [go_sem,zab,Nat.reduceAdd,Nat.reduceSub,Nat.reduceMul,Int.reduceToNat,reduceCtorEq,↓reduceIte,Int.reducePow,Nat.reducePow,Int.reduceMod,Nat.reduceLeDiff,Int.reduceLE,Int.reduceNe,Int.reduceEq,Nat.reduceEqDiff,Nat.reduceLT,Nat.reduceBEq,List.map_cons,List.map_nil,List.toList_toArray,Array.toList_append,Option.toArray_some,Option.toArray_none,Bool.and_self,ty,zco,zbw,zcg,putS,zde,e0,ej,hx1,q1,q2,q3,r1,r2,r3,r4,r5,r6,zbt,tk,lt22,cst22,Int.reduceEq,Int.toNat_natCast,Int.cast_ofNat_Int]
       repeat (refine And.intro (by first | decide | omega | (unfold top; omega) | (unfold top; simp only [List.length_cons,List.length_nil]; omega)) ?_)
       refine ⟨L.length - (j + 1),_,by omega,zad [0,1,2,3,4,158] rfl rfl rfl ?_ ?_,j + 1,rfl,by omega,rfl⟩
       · simp only [ssT,zae,zaf,setSlot,gOf,AV.ren,renL,Blk.ren,Ax.look,Ax.put,reduceCtorEq,↓reduceIte,Nat.reduceEqDiff,Nat.reduceLT,Nat.reduceAdd,List.length_append,List.length_cons,List.length_nil,Option.some.injEq,htake]; try simp
         try exact Nat.add_right_comm _ _ _
       · simp only [ssT,zae,zaf,setSlot,gOf,AV.ren,renL,Blk.ren,Ax.look,Ax.put,reduceCtorEq,↓reduceIte,Nat.reduceEqDiff,Nat.reduceLT,Nat.reduceAdd,List.length_append,List.length_cons,List.length_nil,Option.some.injEq,htake]; try simp
     · have hP2 : F 102 = [UInt8.ofNat (bitN f).toNat] := by rw [← hP]; rfl
       rw [hP2] at hn htake
       simp only [go_sem,zab,Nat.reduceAdd,Nat.reduceSub,Nat.reduceMul,Int.reduceToNat,reduceCtorEq,↓reduceIte,Int.reducePow,Nat.reducePow,Int.reduceMod,Nat.reduceLeDiff,Int.reduceLE,Int.reduceNe,Int.reduceEq,Nat.reduceEqDiff,Nat.reduceLT,Nat.reduceBEq,List.map_cons,List.map_nil,List.toList_toArray,Array.toList_append,Option.toArray_some,Option.toArray_none,Bool.and_self,ty,zco,zbw,zcg,putS,zde,e0,ej,hx1,q1,q2,q3,r1,r2,r3,r4,r5,r6,zbt,tk,lt22,cst22,Int.reduceEq,Int.toNat_natCast,Int.cast_ofNat_Int]
       repeat (refine And.intro (by first | decide | omega | (unfold top; omega) | (unfold top; simp only [List.length_cons,List.length_nil]; omega)) ?_)
       refine ⟨L.length - (j + 1),_,by omega,zad [0,1,2,3,4,174] rfl rfl rfl ?_ ?_,j + 1,rfl,by omega,rfl⟩
       · simp only [ssT,zae,zaf,setSlot,gOf,AV.ren,renL,Blk.ren,Ax.look,Ax.put,reduceCtorEq,↓reduceIte,Nat.reduceEqDiff,Nat.reduceLT,Nat.reduceAdd,List.length_append,List.length_cons,List.length_nil,Option.some.injEq,htake]; try simp
         try exact Nat.add_right_comm _ _ _
       · simp only [ssT,zae,zaf,setSlot,gOf,AV.ren,renL,Blk.ren,Ax.look,Ax.put,reduceCtorEq,↓reduceIte,Nat.reduceEqDiff,Nat.reduceLT,Nat.reduceAdd,List.length_append,List.length_cons,List.length_nil,Option.some.injEq,htake]; try simp
     · have hP2 : F 105 = pq i := by rw [← hP]; rfl
       rw [hP2] at hn htake
       simp only [go_sem,zab,Nat.reduceAdd,Nat.reduceSub,Nat.reduceMul,Int.reduceToNat,reduceCtorEq,↓reduceIte,Int.reducePow,Nat.reducePow,Int.reduceMod,Nat.reduceLeDiff,Int.reduceLE,Int.reduceNe,Int.reduceEq,Nat.reduceEqDiff,Nat.reduceLT,Nat.reduceBEq,List.map_cons,List.map_nil,List.toList_toArray,Array.toList_append,Option.toArray_some,Option.toArray_none,Bool.and_self,ty,zco,zbw,zcg,putS,zde,e0,ej,hx1,q1,q2,q3,r1,r2,r3,r4,r5,r6,zbt,tk,lt22,cst22,Int.reduceEq,Int.toNat_natCast,Int.cast_ofNat_Int]
       repeat (refine And.intro (by first | decide | omega | (unfold top; omega) | (unfold top; simp only [List.length_cons,List.length_nil]; omega)) ?_)
       refine ⟨L.length - (j + 1),_,by omega,zad [0,1,2,3,4,126] rfl rfl rfl ?_ ?_,j + 1,rfl,by omega,rfl⟩
       · simp only [ssT,zae,zaf,setSlot,gOf,AV.ren,renL,Blk.ren,Ax.look,Ax.put,reduceCtorEq,↓reduceIte,Nat.reduceEqDiff,Nat.reduceLT,Nat.reduceAdd,List.length_append,List.length_cons,List.length_nil,Option.some.injEq,htake]; try simp
         try exact Nat.add_right_comm _ _ _
       · simp only [ssT,zae,zaf,setSlot,gOf,AV.ren,renL,Blk.ren,Ax.look,Ax.put,reduceCtorEq,↓reduceIte,Nat.reduceEqDiff,Nat.reduceLT,Nat.reduceAdd,List.length_append,List.length_cons,List.length_nil,Option.some.injEq,htake]; try simp
     · have hP2 : F 112 = pq p := by rw [← hP]; rfl
       rw [hP2] at hn htake
       simp only [go_sem,zab,Nat.reduceAdd,Nat.reduceSub,Nat.reduceMul,Int.reduceToNat,reduceCtorEq,↓reduceIte,Int.reducePow,Nat.reducePow,Int.reduceMod,Nat.reduceLeDiff,Int.reduceLE,Int.reduceNe,Int.reduceEq,Nat.reduceEqDiff,Nat.reduceLT,Nat.reduceBEq,List.map_cons,List.map_nil,List.toList_toArray,Array.toList_append,Option.toArray_some,Option.toArray_none,Bool.and_self,ty,zco,zbw,zcg,putS,zde,e0,ej,hx1,q1,q2,q3,r1,r2,r3,r4,r5,r6,zbt,tk,lt22,cst22,Int.reduceEq,Int.toNat_natCast,Int.cast_ofNat_Int]
       repeat (refine And.intro (by first | decide | omega | (unfold top; omega) | (unfold top; simp only [List.length_cons,List.length_nil]; omega)) ?_)
       refine ⟨L.length - (j + 1),_,by omega,zad [0,1,2,3,4,142] rfl rfl rfl ?_ ?_,j + 1,rfl,by omega,rfl⟩
       · simp only [ssT,zae,zaf,setSlot,gOf,AV.ren,renL,Blk.ren,Ax.look,Ax.put,reduceCtorEq,↓reduceIte,Nat.reduceEqDiff,Nat.reduceLT,Nat.reduceAdd,List.length_append,List.length_cons,List.length_nil,Option.some.injEq,htake]; try simp
         try exact Nat.add_right_comm _ _ _
       · simp only [ssT,zae,zaf,setSlot,gOf,AV.ren,renL,Blk.ren,Ax.look,Ax.put,reduceCtorEq,↓reduceIte,Nat.reduceEqDiff,Nat.reduceLT,Nat.reduceAdd,List.length_append,List.length_cons,List.length_nil,Option.some.injEq,htake]; try simp
     · have hP2 : F 111 = pq o := by rw [← hP]; rfl
       rw [hP2] at hn htake
       simp only [go_sem,zab,Nat.reduceAdd,Nat.reduceSub,Nat.reduceMul,Int.reduceToNat,reduceCtorEq,↓reduceIte,Int.reducePow,Nat.reducePow,Int.reduceMod,Nat.reduceLeDiff,Int.reduceLE,Int.reduceNe,Int.reduceEq,Nat.reduceEqDiff,Nat.reduceLT,Nat.reduceBEq,List.map_cons,List.map_nil,List.toList_toArray,Array.toList_append,Option.toArray_some,Option.toArray_none,Bool.and_self,ty,zco,zbw,zcg,putS,zde,e0,ej,hx1,q1,q2,q3,r1,r2,r3,r4,r5,r6,zbt,tk,lt22,cst22,Int.reduceEq,Int.toNat_natCast,Int.cast_ofNat_Int]
       repeat (refine And.intro (by first | decide | omega | (unfold top; omega) | (unfold top; simp only [List.length_cons,List.length_nil]; omega)) ?_)
       refine ⟨L.length - (j + 1),_,by omega,zad [0,1,2,3,4,190] rfl rfl rfl ?_ ?_,j + 1,rfl,by omega,rfl⟩
       · simp only [ssT,zae,zaf,setSlot,gOf,AV.ren,renL,Blk.ren,Ax.look,Ax.put,reduceCtorEq,↓reduceIte,Nat.reduceEqDiff,Nat.reduceLT,Nat.reduceAdd,List.length_append,List.length_cons,List.length_nil,Option.some.injEq,htake]; try simp
         try exact Nat.add_right_comm _ _ _
       · simp only [ssT,zae,zaf,setSlot,gOf,AV.ren,renL,Blk.ren,Ax.look,Ax.put,reduceCtorEq,↓reduceIte,Nat.reduceEqDiff,Nat.reduceLT,Nat.reduceAdd,List.length_append,List.length_cons,List.length_nil,Option.some.injEq,htake]; try simp
     · have hP2 : F 109 = pq m := by rw [← hP]; rfl
       rw [hP2] at hn htake
       simp only [go_sem,zab,Nat.reduceAdd,Nat.reduceSub,Nat.reduceMul,Int.reduceToNat,reduceCtorEq,↓reduceIte,Int.reducePow,Nat.reducePow,Int.reduceMod,Nat.reduceLeDiff,Int.reduceLE,Int.reduceNe,Int.reduceEq,Nat.reduceEqDiff,Nat.reduceLT,Nat.reduceBEq,List.map_cons,List.map_nil,List.toList_toArray,Array.toList_append,Option.toArray_some,Option.toArray_none,Bool.and_self,ty,zco,zbw,zcg,putS,zde,e0,ej,hx1,q1,q2,q3,r1,r2,r3,r4,r5,r6,zbt,tk,lt22,cst22,Int.reduceEq,Int.toNat_natCast,Int.cast_ofNat_Int]
       repeat (refine And.intro (by first | decide | omega | (unfold top; omega) | (unfold top; simp only [List.length_cons,List.length_nil]; omega)) ?_)
       refine ⟨L.length - (j + 1),_,by omega,zad [0,1,2,3,4,206] rfl rfl rfl ?_ ?_,j + 1,rfl,by omega,rfl⟩
       · simp only [ssT,zae,zaf,setSlot,gOf,AV.ren,renL,Blk.ren,Ax.look,Ax.put,reduceCtorEq,↓reduceIte,Nat.reduceEqDiff,Nat.reduceLT,Nat.reduceAdd,List.length_append,List.length_cons,List.length_nil,Option.some.injEq,htake]; try simp
         try exact Nat.add_right_comm _ _ _
       · simp only [ssT,zae,zaf,setSlot,gOf,AV.ren,renL,Blk.ren,Ax.look,Ax.put,reduceCtorEq,↓reduceIte,Nat.reduceEqDiff,Nat.reduceLT,Nat.reduceAdd,List.length_append,List.length_cons,List.length_nil,Option.some.injEq,htake]; try simp
     · have hP2 : F 119 = pq w := by rw [← hP]; rfl
       rw [hP2] at hn htake
       simp only [go_sem,zab,Nat.reduceAdd,Nat.reduceSub,Nat.reduceMul,Int.reduceToNat,reduceCtorEq,↓reduceIte,Int.reducePow,Nat.reducePow,Int.reduceMod,Nat.reduceLeDiff,Int.reduceLE,Int.reduceNe,Int.reduceEq,Nat.reduceEqDiff,Nat.reduceLT,Nat.reduceBEq,List.map_cons,List.map_nil,List.toList_toArray,Array.toList_append,Option.toArray_some,Option.toArray_none,Bool.and_self,ty,zco,zbw,zcg,putS,zde,e0,ej,hx1,q1,q2,q3,r1,r2,r3,r4,r5,r6,zbt,tk,lt22,cst22,Int.reduceEq,Int.toNat_natCast,Int.cast_ofNat_Int]
       repeat (refine And.intro (by first | decide | omega | (unfold top; omega) | (unfold top; simp only [List.length_cons,List.length_nil]; omega)) ?_)
       refine ⟨L.length - (j + 1),_,by omega,zad [0,1,2,3,4,222] rfl rfl rfl ?_ ?_,j + 1,rfl,by omega,rfl⟩
       · simp only [ssT,zae,zaf,setSlot,gOf,AV.ren,renL,Blk.ren,Ax.look,Ax.put,reduceCtorEq,↓reduceIte,Nat.reduceEqDiff,Nat.reduceLT,Nat.reduceAdd,List.length_append,List.length_cons,List.length_nil,Option.some.injEq,htake]; try simp
         try exact Nat.add_right_comm _ _ _
       · simp only [ssT,zae,zaf,setSlot,gOf,AV.ren,renL,Blk.ren,Ax.look,Ax.put,reduceCtorEq,↓reduceIte,Nat.reduceEqDiff,Nat.reduceLT,Nat.reduceAdd,List.length_append,List.length_cons,List.length_nil,Option.some.injEq,htake]; try simp
     · have hP2 : F 110 = pq n := by rw [← hP]; rfl
       rw [hP2] at hn htake
       simp only [go_sem,zab,Nat.reduceAdd,Nat.reduceSub,Nat.reduceMul,Int.reduceToNat,reduceCtorEq,↓reduceIte,Int.reducePow,Nat.reducePow,Int.reduceMod,Nat.reduceLeDiff,Int.reduceLE,Int.reduceNe,Int.reduceEq,Nat.reduceEqDiff,Nat.reduceLT,Nat.reduceBEq,List.map_cons,List.map_nil,List.toList_toArray,Array.toList_append,Option.toArray_some,Option.toArray_none,Bool.and_self,ty,zco,zbw,zcg,putS,zde,e0,ej,hx1,q1,q2,q3,r1,r2,r3,r4,r5,r6,zbt,tk,lt22,cst22,Int.reduceEq,Int.toNat_natCast,Int.cast_ofNat_Int]
       repeat (refine And.intro (by first | decide | omega | (unfold top; omega) | (unfold top; simp only [List.length_cons,List.length_nil]; omega)) ?_)
       refine ⟨L.length - (j + 1),_,by omega,zad [0,1,2,3,4,270] rfl rfl rfl ?_ ?_,j + 1,rfl,by omega,rfl⟩
       · simp only [ssT,zae,zaf,setSlot,gOf,AV.ren,renL,Blk.ren,Ax.look,Ax.put,reduceCtorEq,↓reduceIte,Nat.reduceEqDiff,Nat.reduceLT,Nat.reduceAdd,List.length_append,List.length_cons,List.length_nil,Option.some.injEq,htake]; try simp
         try exact Nat.add_right_comm _ _ _
       · simp only [ssT,zae,zaf,setSlot,gOf,AV.ren,renL,Blk.ren,Ax.look,Ax.put,reduceCtorEq,↓reduceIte,Nat.reduceEqDiff,Nat.reduceLT,Nat.reduceAdd,List.length_append,List.length_cons,List.length_nil,Option.some.injEq,htake]; try simp
   · obtain rfl : j = L.length := by omega
     have e0 : decide ((L.length : Int) < (L.length : Int)) = false := decide_eq_false (by omega)
     rw [List.take_length]
     simp only [go_sem,zab,Nat.reduceAdd,Nat.reduceSub,Nat.reduceMul,Int.reduceToNat,reduceCtorEq,↓reduceIte,Int.reducePow,Nat.reducePow,Int.reduceMod,Nat.reduceLeDiff,Int.reduceLE,Int.reduceNe,Int.reduceEq,Nat.reduceEqDiff,Nat.reduceLT,Nat.reduceBEq,List.map_cons,List.map_nil,List.toList_toArray,Array.toList_append,Option.toArray_some,Option.toArray_none,Bool.and_self,ty,zco,zbw,e0]
     refine ⟨_,Weak.refl _,?_⟩
     simp only [go_sem,zab,Nat.reduceAdd,Nat.reduceSub,Nat.reduceMul,Int.reduceToNat,reduceCtorEq,↓reduceIte,Int.reducePow,Nat.reducePow,Int.reduceMod,Nat.reduceLeDiff,Int.reduceLE,Int.reduceNe,Int.reduceEq,Nat.reduceEqDiff,Nat.reduceLT,Nat.reduceBEq,List.map_cons,List.map_nil,List.toList_toArray,Array.toList_append,Option.toArray_some,Option.toArray_none,Bool.and_self,ty,zco,zbw]
     exact zbn 2 3 (by decide) rfl rfl rfl rfl rfl rfl
set_option maxHeartbeats 4000000 in
theorem rputQ_sound : zaq Try.prog 11 putQS := by
 refine zcj (S := zco) (SO := noO) (T := ty) zas ty_ok SrputQ_ok noO_ok Try.func11 (c := Try.f11.body.getD .skip) (by kernel_rfl) (fun xs pins hp _ => ?_)
 unfold putQS at hp ⊢
 split at hp
 · rename_i k t i p c f o m w g mb n b1 b2 b3 b4 b5 xs fl _
   obtain ⟨hk0,hk1,hq,hr,h40,rs,rfl⟩ := hp
   rw [zah]
   refine ⟨by simp,zbw,by kernel_rfl,?_⟩
   by_cases hc : chkQ k t i p c f o m w g mb n b1 b2 b3 b4 b5 rs = 0
   · have hB : putQ k t i p c f o m w g mb n b1 b2 b3 b4 b5 rs = layQ k t i p c f o m w g mb n b1 b2 b3 b4 b5 rs := if_pos hc
     have hk := (chkQ_ok rs hc).1
     rw [hB,hc]
     by_cases hk3 : k = 3
     · subst hk3
       exact rputQ_k3 t i p c f o m w g mb n b1 b2 b3 b4 b5 rs fl hc hq hr h40
     · exact rputQ_loop k hk0 hk hk3 t i p c f o m w g mb n b1 b2 b3 b4 b5 rs fl hc hq hr h40
   · have hB : putQ k t i p c f o m w g mb n b1 b2 b3 b4 b5 rs = [] := if_neg hc
     rw [hB]
     have hL : (rs.map rv).length ≤ 9223372036854775807 := by omega
     have hmr := zah rs
     have hex : ∃ qs : List Rec,rs.map rv = qs.map rv := ⟨rs,rfl⟩
     unfold Try.f11
     by_cases hk : 11 < k
     · have d1 := decide_eq_true hk
       have hv : chkQ k t i p c f o m w g mb n b1 b2 b3 b4 b5 rs = 22 := if_pos hk
       rw [hv]
       simp only [go_sem,zab,Nat.reduceAdd,Nat.reduceSub,Nat.reduceMul,Int.reduceToNat,reduceCtorEq,↓reduceIte,Int.reducePow,Nat.reducePow,Int.reduceMod,Nat.reduceLeDiff,Int.reduceLE,Int.reduceNe,Int.reduceEq,Nat.reduceEqDiff,Nat.reduceLT,Nat.reduceBEq,List.map_cons,List.map_nil,List.toList_toArray,Array.toList_append,Option.toArray_some,Option.toArray_none,Bool.and_self,ty,zco,zbw,d1]
       exact zbl 2 3 (by decide) rfl rfl rfl rfl
     have d1 := decide_eq_false hk
     have hk2 : k ≤ 11 := by omega
     obtain ⟨t',i',p',c',f',o',m',w',g',mb',n',b1',b2',b3',b4',b5',ys,fm,hO,hY1,hY2,hS⟩ := only_told k t i p c f o m w g mb n b1 b2 b3 b4 b5 rs fl hL
     have hv1 : ¬ zbv k t i p c f o m w g mb n b1 b2 b3 b4 b5 rs = true → chkQ k t i p c f o m w g mb n b1 b2 b3 b4 b5 rs = 4 := fun h => by unfold chkQ; rw [if_neg hk,if_pos (by simpa using h)]
     have hv2 : zbv k t i p c f o m w g mb n b1 b2 b3 b4 b5 rs = true → zfk t g mb → chkQ k t i p c f o m w g mb n b1 b2 b3 b4 b5 rs = 5 := fun h h2 => by unfold chkQ; rw [if_neg hk,if_neg (by rw [h]; decide),if_pos h2]
     have hv3 : zbv k t i p c f o m w g mb n b1 b2 b3 b4 b5 rs = true → ¬ zfk t g mb → k ≠ 3 → chkQ k t i p c f o m w g mb n b1 b2 b3 b4 b5 rs = 0 := fun h h2 h3 => by unfold chkQ; rw [if_neg hk,if_neg (by rw [h]; decide),if_neg h2,if_pos h3]
     have hv4 : zbv k t i p c f o m w g mb n b1 b2 b3 b4 b5 rs = true → ¬ zfk t g mb → k = 3 → batE 0 b2 b3 b4 b5 rs ≠ 0 → chkQ k t i p c f o m w g mb n b1 b2 b3 b4 b5 rs = batE 0 b2 b3 b4 b5 rs := fun h h2 h3 h4 => by unfold chkQ; rw [if_neg hk,if_neg (by rw [h]; decide),if_neg h2,if_neg (fun g => g h3),if_pos h4]
     have hv5 : zbv k t i p c f o m w g mb n b1 b2 b3 b4 b5 rs = true → ¬ zfk t g mb → k = 3 → batE 0 b2 b3 b4 b5 rs = 0 → b1 ≠ 0 → chkQ k t i p c f o m w g mb n b1 b2 b3 b4 b5 rs = 4 := fun h h2 h3 h4 h5 => by
       unfold chkQ; rw [if_neg hk,if_neg (by rw [h]; decide),if_neg h2,if_neg (fun g => g h3),if_neg (fun g => g h4),if_pos h5]
     have hv6 : zbv k t i p c f o m w g mb n b1 b2 b3 b4 b5 rs = true → ¬ zfk t g mb → k = 3 → batE 0 b2 b3 b4 b5 rs = 0 → b1 = 0 → chkQ k t i p c f o m w g mb n b1 b2 b3 b4 b5 rs = 0 := fun h h2 h3 h4 h5 => by
       unfold chkQ; rw [if_neg hk,if_neg (by rw [h]; decide),if_neg h2,if_neg (fun g => g h3),if_neg (fun g => g h4),if_neg (fun g => g h5)]
     obtain ⟨V,hV⟩ : ∃ x,chkQ k t i p c f o m w g mb n b1 b2 b3 b4 b5 rs = x := ⟨_,rfl⟩
     obtain ⟨S,hSS⟩ : ∃ x,zbv k t i p c f o m w g mb n b1 b2 b3 b4 b5 rs = x := ⟨_,rfl⟩
     rw [hSS] at hS hv1 hv2 hv3 hv4 hv5 hv6
     rw [hV] at hv1 hv2 hv3 hv4 hv5 hv6 hc ⊢
     cases S with
     | false =>
       rw [hv1 (by decide)]
       simp only [go_sem,zab,Nat.reduceAdd,Nat.reduceSub,Nat.reduceMul,Int.reduceToNat,reduceCtorEq,↓reduceIte,Int.reducePow,Nat.reducePow,Int.reduceMod,Nat.reduceLeDiff,Int.reduceLE,Int.reduceNe,Int.reduceEq,Nat.reduceEqDiff,Nat.reduceLT,Nat.reduceBEq,List.map_cons,List.map_nil,List.toList_toArray,Array.toList_append,Option.toArray_some,Option.toArray_none,Bool.and_self,ty,zco,zbw,zcw,zfe,d1,hk0,hk2,hO,hL,hex,hmr,hY1,hY2,hS]
       exact zbl 2 3 (by decide) rfl rfl rfl rfl
     | true =>
       rcases long_cases t g mb with D | D | D | D
       rotate_right 1
       · have hnl : ¬ zfk t g mb := D.2.2.2
         by_cases hk3 : k = 3
         · have d2 := decide_eq_true hk3
           by_cases he : batE 0 b2 b3 b4 b5 rs = 0
           · by_cases hb : b1 = 0
             · exact (hc (hv6 rfl hnl hk3 he hb)).elim
             · have d4 := decide_eq_false hb
               rw [hv5 rfl hnl hk3 he hb]
               simp only [go_sem,zab,Nat.reduceAdd,Nat.reduceSub,Nat.reduceMul,Int.reduceToNat,reduceCtorEq,↓reduceIte,Int.reducePow,Nat.reducePow,Int.reduceMod,Nat.reduceLeDiff,Int.reduceLE,Int.reduceNe,Int.reduceEq,Nat.reduceEqDiff,Nat.reduceLT,Nat.reduceBEq,List.map_cons,List.map_nil,List.toList_toArray,Array.toList_append,Option.toArray_some,Option.toArray_none,Bool.and_self,ty,zco,zbw,zcw,zfe,zfn,d1,d2,d4,hk0,hk2,hO,hL,h40,hex,hmr,hY1,hY2,hS,D,he]
               exact zbl 2 3 (by decide) rfl rfl rfl rfl
           · have d3 := decide_eq_false he
             rw [hv4 rfl hnl hk3 he]
             simp only [go_sem,zab,Nat.reduceAdd,Nat.reduceSub,Nat.reduceMul,Int.reduceToNat,reduceCtorEq,↓reduceIte,Int.reducePow,Nat.reducePow,Int.reduceMod,Nat.reduceLeDiff,Int.reduceLE,Int.reduceNe,Int.reduceEq,Nat.reduceEqDiff,Nat.reduceLT,Nat.reduceBEq,List.map_cons,List.map_nil,List.toList_toArray,Array.toList_append,Option.toArray_some,Option.toArray_none,Bool.and_self,ty,zco,zbw,zcw,zfe,zfn,d1,d2,d3,hk0,hk2,hO,hL,h40,hex,hmr,hY1,hY2,hS,D]
             exact zbl 2 3 (by decide) rfl rfl rfl rfl
         · exact (hc (hv3 rfl hnl hk3)).elim
       all_goals
         rw [hv2 rfl (by first | exact D.2 | exact D.2.2 | exact D.2.2.2)]
         simp only [go_sem,zab,Nat.reduceAdd,Nat.reduceSub,Nat.reduceMul,Int.reduceToNat,reduceCtorEq,↓reduceIte,Int.reducePow,Nat.reducePow,Int.reduceMod,Nat.reduceLeDiff,Int.reduceLE,Int.reduceNe,Int.reduceEq,Nat.reduceEqDiff,Nat.reduceLT,Nat.reduceBEq,List.map_cons,List.map_nil,List.toList_toArray,Array.toList_append,Option.toArray_some,Option.toArray_none,Bool.and_self,ty,zco,zbw,zcw,zfe,d1,hk0,hk2,hO,hL,hex,hmr,hY1,hY2,hS,D]
         exact zbl 2 3 (by decide) rfl rfl rfl rfl
 · exact hp.elim
end
end Go.Proofs.Ytmedjkjoannbmaa
